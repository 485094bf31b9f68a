/- The laws of layer 2: MicroBack, MicroWideBack. (gen_mlawt.py) -/
import Derived.Test.YtdjehbagnkfkpaaDoorMparse

namespace Go.Proofs.YtdjehbagnkfkpaaDoor
set_option linter.unusedVariables false
set_option linter.unusedSimpArgs false
open Go.RowKit W
set_option maxRecDepth 100000 in
set_option maxHeartbeats 2000000 in
theorem back_far (v : Int) (t : List UInt8) (h : 1000000000000000 < v ∨ v < -1000000000000000) (hl : t.length ≤ 100) (hl2 : 9 < t.length) (g1 : decide (1000000000000000 < v) = true)
    (k1 : ∀ w, Calls Tryd.prog 16 #[.int .i64 v] w fun e w' => e = .returned (.string ⟨t.toArray⟩) ∧ Below w.heap.size w w')
    (k2 : ∀ w, Calls Tryd.prog 13 #[.string ⟨t.toArray⟩] w fun e w' => e = .returned (.tuple #[.int .i64 0, .int .i64 22]) ∧ Below w.heap.size w w')
    (w : World) : Calls Tryd.prog 7 #[.int .i64 v] w fun e w' => e = .returned (.bool true) ∧ Below w.heap.size w w' := by
  go_enter Tryd.func7, Tryd.ntmps7
  go_wp2_with fail
  refine (k1 _).mono ?_
  rintro e w1 ⟨rfl, h1⟩
  have B1 : Below w.heap.size w w1 := Below.trans (by go_grown) (h1.mono (by first | (simp; done) | omega | (simp; omega)))
  have y1 := B1.size
  clear h1 k1
  go_wp2_with fail
  refine (k2 _).mono ?_
  rintro e w2 ⟨rfl, h2⟩
  have B2 : Below w.heap.size w w2 := Below.trans (by go_grown) (h2.mono (by first | (simp; done) | omega | (simp; omega)))
  have y2 := B2.size
  clear h2 k2 B1
  go_wp2_with fail
  go_returns
  exact ⟨rfl, by go_grown⟩
set_option maxRecDepth 100000 in
set_option maxHeartbeats 2000000 in
theorem back_low (v : Int) (t : List UInt8) (hl : t.length ≤ 100) (hl2 : 9 < t.length) (g1 : ¬ 1000000000000000 < v) (g2 : v < -1000000000000000)
    (k1 : ∀ w, Calls Tryd.prog 16 #[.int .i64 v] w fun e w' => e = .returned (.string ⟨t.toArray⟩) ∧ Below w.heap.size w w')
    (k2 : ∀ w, Calls Tryd.prog 13 #[.string ⟨t.toArray⟩] w fun e w' => e = .returned (.tuple #[.int .i64 0, .int .i64 22]) ∧ Below w.heap.size w w')
    (w : World) : Calls Tryd.prog 7 #[.int .i64 v] w fun e w' => e = .returned (.bool true) ∧ Below w.heap.size w w' := by
  go_enter Tryd.func7, Tryd.ntmps7
  go_wp2_with fail
  refine (k1 _).mono ?_
  rintro e w1 ⟨rfl, h1⟩
  have B1 : Below w.heap.size w w1 := Below.trans (by go_grown) (h1.mono (by first | (simp; done) | omega | (simp; omega)))
  have y1 := B1.size
  clear h1 k1
  go_wp2_with fail
  refine (k2 _).mono ?_
  rintro e w2 ⟨rfl, h2⟩
  have B2 : Below w.heap.size w w2 := Below.trans (by go_grown) (h2.mono (by first | (simp; done) | omega | (simp; omega)))
  have y2 := B2.size
  clear h2 k2 B1
  go_wp2_with fail
  go_returns
  exact ⟨rfl, by go_grown⟩
set_option maxRecDepth 100000 in
set_option maxHeartbeats 2000000 in
theorem back_fit (v : Int) (t : List UInt8) (hl : t.length ≤ 100) (hl2 : 0 < t.length) (g1 : ¬ 1000000000000000 < v) (g2 : ¬ v < -1000000000000000)
    (k1 : ∀ w, Calls Tryd.prog 16 #[.int .i64 v] w fun e w' => e = .returned (.string ⟨t.toArray⟩) ∧ Below w.heap.size w w')
    (k2 : ∀ w, Calls Tryd.prog 13 #[.string ⟨t.toArray⟩] w fun e w' => e = .returned (.tuple #[.int .i64 v, .int .i64 0]) ∧ Below w.heap.size w w')
    (w : World) : Calls Tryd.prog 7 #[.int .i64 v] w fun e w' => e = .returned (.bool true) ∧ Below w.heap.size w w' := by
  go_enter Tryd.func7, Tryd.ntmps7
  go_wp2_with fail
  refine (k1 _).mono ?_
  rintro e w1 ⟨rfl, h1⟩
  have B1 : Below w.heap.size w w1 := Below.trans (by go_grown) (h1.mono (by first | (simp; done) | omega | (simp; omega)))
  have y1 := B1.size
  clear h1 k1
  go_wp2_with fail
  refine (k2 _).mono ?_
  rintro e w2 ⟨rfl, h2⟩
  have B2 : Below w.heap.size w w2 := Below.trans (by go_grown) (h2.mono (by first | (simp; done) | omega | (simp; omega)))
  have y2 := B2.size
  clear h2 k2 B1
  go_wp2_with fail
  go_returns
  exact ⟨rfl, by go_grown⟩
set_option maxRecDepth 100000 in
set_option maxHeartbeats 2000000 in
theorem wback_walk (a b : Int) (t : List UInt8) (hl : t.length ≤ 100) (hl2 : 0 < t.length)
    (k1 : ∀ w, Calls Tryd.prog 20 #[.agg #[.int .i64 a, .int .u64 b]] w fun e w' => e = .returned (.string ⟨t.toArray⟩) ∧ Below w.heap.size w w')
    (k2 : ∀ w, Calls Tryd.prog 18 #[.string ⟨t.toArray⟩] w fun e w' => e = .returned (.tuple #[.agg #[.int .i64 a, .int .u64 b], .int .i64 0]) ∧ Below w.heap.size w w')
    (w : World) : Calls Tryd.prog 8 #[.agg #[.int .i64 a, .int .u64 b]] w fun e w' => e = .returned (.bool true) ∧ Below w.heap.size w w' := by
  go_enter Tryd.func8, Tryd.ntmps8
  go_wp2_with fail
  refine (k1 _).mono ?_
  rintro e w1 ⟨rfl, h1⟩
  have B1 : Below w.heap.size w w1 := Below.trans (by go_grown) (h1.mono (by first | (simp; done) | omega | (simp; omega)))
  have y1 := B1.size
  have A0 := box2 h1 (w.heap.size) (.int .i64 a) (.int .u64 b) (by first | assumption | (simp [go_sem]; done) | (simp [go_sem]; done)) (by first | assumption | (simp [go_sem]; done) | (simp [go_sem]; done)) (by first | assumption | (simp [go_sem]; done) | (simp [go_sem]; done)) (by first | assumption | (simp [go_sem]; done) | (simp [go_sem]; done)) (by first | assumption | omega | (simp; done) | (simp; omega))
  obtain ⟨A0c0, A0c1, A0f0, A0f1, A0z⟩ := A0
  clear h1 k1
  go_wp2_with fail
  refine (k2 _).mono ?_
  rintro e w2 ⟨rfl, h2⟩
  have B2 : Below w.heap.size w w2 := Below.trans (by go_grown) (h2.mono (by first | (simp; done) | omega | (simp; omega)))
  have y2 := B2.size
  have B0 := box2 h2 (w.heap.size) (.int .i64 a) (.int .u64 b) (by first | assumption | (refine (Below.cell ?_ A0z).trans A0c0; go_grown; done) | (simp [go_sem, A0c0]; done) | (simp [go_sem, A0c0, A0z]; done) | (simp [go_sem, A0c0, A0c1, A0f0, A0f1, A0z]; done)) (by first | assumption | (refine (Below.cell ?_ A0z).trans A0c1; go_grown; done) | (simp [go_sem, A0c1]; done) | (simp [go_sem, A0c1, A0z]; done) | (simp [go_sem, A0c0, A0c1, A0f0, A0f1, A0z]; done)) (by first | assumption | (refine (Below.frozen ?_ A0z).trans A0f0; go_grown; done) | (simp [go_sem, A0f0]; done) | (simp [go_sem, A0f0, A0z]; done) | (simp [go_sem, A0c0, A0c1, A0f0, A0f1, A0z]; done)) (by first | assumption | (refine (Below.frozen ?_ A0z).trans A0f1; go_grown; done) | (simp [go_sem, A0f1]; done) | (simp [go_sem, A0f1, A0z]; done) | (simp [go_sem, A0c0, A0c1, A0f0, A0f1, A0z]; done)) (by first | assumption | omega | (simp; done) | (simp; omega))
  clear A0c0 A0c1 A0f0 A0f1 A0z
  obtain ⟨B0c0, B0c1, B0f0, B0f1, B0z⟩ := B0
  clear h2 k2 B1
  go_wp2_with fail
  go_returns
  exact ⟨rfl, by go_grown⟩
theorem pre_ge (k n : Nat) (h : 10 ^ k ≤ n) : k + 1 ≤ (Dc.pre n).length := by
  induction k generalizing n with
  | zero => rw [Dc.pre_pos (by omega)]; simp
  | succ k ih =>
    have p : 0 < 10 ^ k := Nat.pow_pos (by omega)
    rw [Nat.pow_succ] at h
    have := ih (n / 10) (by omega)
    rw [Dc.pre_pos (by omega)]
    simp; omega
theorem far_len {v : Int} (h : 1000000000000000 < v ∨ v < -1000000000000000) : 9 < (showT v).length := by
  have n : 10 ^ 15 ≤ v.natAbs := by omega
  have dl : 16 ≤ (Dc.dec v.natAbs).length := by rw [Dc.dec_pos (by omega)]; exact pre_ge 15 _ n
  have pl := pad7_len (Dc.dec v.natAbs)
  have wl := (whole_len v.natAbs).1
  have al : 10 ≤ (showA v.natAbs).length := by
    unfold showA; split
    · omega
    · rw [List.length_append]; omega
  unfold showT; split
  · rw [List.length_cons]; omega
  · omega
theorem law_MicroBack (v : Int) (wv : (Lit.int .i64 v).wf = true) (w : World) :
    Calls Tryd.prog 7 #[.int .i64 v] w fun e w' => e = .returned (.bool true) ∧ Below w.heap.size w w' := by
  have j := hi_of_wf wv
  have f : Fits v := by obtain ⟨_, _⟩ := j; exact ⟨by omega, by omega⟩
  obtain ⟨l1, l2⟩ := showT_len f
  have k1 := mprint_spec v j
  have k2 := fun w => mparse_spec ⟨(showT v).toArray⟩ w (by simp [ByteArray.size]; omega)
  simp only [show (⟨(showT v).toArray⟩ : ByteArray).data.toList = showT v from rfl, parse_show] at k2
  by_cases u : -1000000000000000 ≤ v ∧ v ≤ 1000000000000000
  · simp only [if_pos u] at k2
    exact back_fit v _ l1 (by omega) (by omega) (by omega) k1 k2 w
  · simp only [if_neg u] at k2
    by_cases g : 1000000000000000 < v
    · exact back_far v _ (.inl g) l1 (far_len (.inl g)) (decide_eq_true g) k1 k2 w
    · exact back_low v _ l1 (far_len (.inr (by omega))) g (by omega) k1 k2 w
theorem law_MicroWideBack (a0 b0 : Int) (wa0 : (Lit.int .i64 a0).wf = true) (wb0 : (Lit.int .u64 b0).wf = true) (w : World) :
    Calls Tryd.prog 8 #[.agg #[.int .i64 a0, .int .u64 b0]] w fun e w' => e = .returned (.bool true) ∧ Below w.heap.size w w' := by
  have i : IsW (a0, b0) := ⟨hi_of_wf wa0, lo_of_wf wb0⟩
  have f : Fits (V a0 b0) := fits_V i.a i.b
  obtain ⟨l1, l2⟩ := showT_len f
  have k1 := show_spec a0 b0 i
  have k2 := fun w => mread_spec ⟨(showT (V a0 b0)).toArray⟩ w (by simp [ByteArray.size]; omega)
  simp only [show (⟨(showT (V a0 b0)).toArray⟩ : ByteArray).data.toList = showT (V a0 b0) from rfl, read_show] at k2
  unfold sumRes at k2
  rw [resV_fits f, resE_fits f, hi_V i.b, lo_V i.b] at k2
  exact wback_walk a0 b0 _ l1 (by omega) k1 k2 w
end Go.Proofs.YtdjehbagnkfkpaaDoor
