/- The law of layer 1: WideParses. (gen_lparse.py) -/
import Derived.Test.YthcgkpmlfbjagaaLparse
namespace Go.Proofs.Ythcgkpmlfbjagaa
set_option linter.unusedVariables false
set_option linter.unusedSimpArgs false
open Go.RowKit W
set_option maxHeartbeats 4000000 in
theorem parses_walk (s : ByteArray) (x1 x0 er : Int)
    (k0 : ∀ w, Calls Try.prog 25 #[] w fun e w' => e = .returned (.bool true) ∧ Below w.heap.size w w')
    (k1 : ∀ w, Calls Try.prog 40 #[.string s] w fun e w' => e = .returned (.tuple #[.agg #[.int .i64 x1, .int .u64 x0], .int .i64 er]) ∧ Below w.heap.size w w')
    (k2 : ∀ w, Calls Try.prog 41 #[.string s] w fun e w' => e = .returned (.tuple #[.agg #[.int .i64 x1, .int .u64 x0], .int .i64 er]) ∧ Below w.heap.size w w')
    (w : World) : Calls Try.prog 10 #[.string s] w fun e w' => e = .returned (.bool true) ∧ Below w.heap.size w w' := by
  go_enter Try.func10, Try.ntmps10
  go_wp2_with fail
  refine (k1 _).mono ?_
  rintro e w1 ⟨rfl, h1⟩
  have B1 : Below w.heap.size w w1 := Below.trans (by go_grown) (h1.mono (by first | (simp; done) | omega | (simp; omega)))
  have y1 := B1.size
  clear h1 k1
  go_wp2_with fail
  refine (k2 _).mono ?_
  rintro e w2 ⟨rfl, h2⟩
  have B2 : Below w.heap.size w w2 := Below.trans (by go_grown) (h2.mono (by first | (simp; done) | omega | (simp; omega)))
  have y2 := B2.size
  have B0 := box2 h2 (w1.heap.size) (.int .i64 x1) (.int .u64 x0) (by first | assumption | (simp [go_sem]; done) | (simp [go_sem]; done)) (by first | assumption | (simp [go_sem]; done) | (simp [go_sem]; done)) (by first | assumption | (simp [go_sem]; done) | (simp [go_sem]; done)) (by first | assumption | (simp [go_sem]; done) | (simp [go_sem]; done)) (by first | assumption | omega | (simp; done) | (simp; omega))
  obtain ⟨B0c0, B0c1, B0f0, B0f1, B0z⟩ := B0
  clear h2 k2 B1
  go_wp2_with fail
  refine (k0 _).mono ?_
  rintro e w3 ⟨rfl, h3⟩
  have B3 : Below w.heap.size w w3 := Below.trans (by go_grown) (h3.mono (by first | (simp; done) | omega | (simp; omega)))
  have y3 := B3.size
  clear B0c0 B0c1 B0f0 B0f1 B0z
  clear h3 k0 B2
  go_wp2_with fail
  go_returns
  exact ⟨rfl, by go_grown⟩
theorem parRes_form (neg : Bool) (d : ByteArray) : ∃ x1 x0 er, parRes neg d = .returned (.tuple #[.agg #[.int .i64 x1, .int .u64 x0], .int .i64 er]) := by
  unfold parRes
  split
  · exact ⟨_, _, _, rfl⟩
  · exact ⟨_, _, _, rfl⟩
theorem law_WideParses (s : ByteArray) (hs : s.size ≤ 140737488355328) (w : World) :
    Calls Try.prog 10 #[.string s] w fun e w' => e = .returned (.bool true) ∧ Below w.heap.size w w' := by
  obtain ⟨x1, x0, er, e⟩ := parRes_form (isNeg s) (digOf s)
  have k1 := fun w => parse_spec s w hs
  have k2 := fun w => rparse_spec s w hs
  simp only [e] at k1 k2
  exact parses_walk s x1 x0 er alive_ok k1 k2 w
end Go.Proofs.Ythcgkpmlfbjagaa
