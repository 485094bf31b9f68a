/- wide: Cmp, Sign, Of, Small: what each call does. -/
import Derived.Test.YtjnjfdlmfinhfabProg
import Derived.Test.YtjnjfdlmfinhfabMath
import Derived.WalkKit
import Derived.WalkSpells
import Derived.WalkLawsBesides
import Derived.Handy
namespace Go.Proofs.Ytjnjfdlmfinhfab
set_option linter.unusedVariables false
open Go.RowKit W
theorem ret_int {k : IntKind} {a b : Int} (h : a = b) : Ending.returned (.int k a) = .returned (.int k b) := by rw [h]
/-- What lay below stays: cells and marks, as rules for the walk. -/
theorem bcell {W w1 : World} (hb : Below W.heap.size W w1) :
    (∀ b o, b < W.heap.size → w1.cell? ⟨b, o, none⟩ = W.cell? ⟨b, o, none⟩) ∧ (∀ b o, b < W.heap.size → w1.frozen? ⟨b, o, none⟩ = W.frozen? ⟨b, o, none⟩) ∧ W.heap.size ≤ w1.heap.size :=
  ⟨fun b o h => hb.cell (p := ⟨b, o, none⟩) h, fun b o h => hb.frozen (p := ⟨b, o, none⟩) h, hb.size⟩
/-- A cell of a block that lay there ahead of a call: what it holds, that it may be written, that its block is there. -/
theorem live {W w1 : World} (v : Value) (hb : Below W.heap.size W w1) (b o : Nat) (h : b < W.heap.size) (hv : W.cell? ⟨b, o, none⟩ = some v) (hf : W.frozen? ⟨b, o, none⟩ = false) :
    w1.cell? ⟨b, o, none⟩ = some v ∧ w1.frozen? ⟨b, o, none⟩ = false ∧ b < w1.heap.size :=
  ⟨(hb.cell (p := ⟨b, o, none⟩) h).trans hv, (hb.frozen (p := ⟨b, o, none⟩) h).trans hf, Nat.lt_of_lt_of_le h hb.size⟩
set_option maxHeartbeats 400000 in
theorem cmp_spec (h l h' l' : Int) (i : IsLo l) (i' : IsLo l') (w : World) :
    Calls Try.prog 5 #[.agg #[.int .i64 h, .int .u64 l], .agg #[.int .i64 h', .int .u64 l']] w
      fun e w' => e = .returned (.int .i64 (cmpI (V h l) (V h' l'))) ∧ Below w.heap.size w w' := by
  go_enter Try.func5, Try.ntmps5
  go_wp2
  · go_ret
    exact ⟨ret_int (cmp_eq (V_eq ‹_› ‹_›)).symm, by go_grown⟩
  · go_ret
    exact ⟨ret_int (cmp_lt (V_lt2 ‹_› ‹_›)).symm, by go_grown⟩
  · go_ret
    exact ⟨ret_int (cmp_gt (V_lt2 (by omega) (by omega))).symm, by go_grown⟩
  · go_ret
    exact ⟨ret_int (cmp_gt (V_lt1 i' i (by omega))).symm, by go_grown⟩
  · go_ret
    exact ⟨ret_int (cmp_lt (V_lt1 i i' (by omega))).symm, by go_grown⟩
set_option maxHeartbeats 400000 in
theorem sign_spec (h l : Int) (i : IsLo l) (w : World) :
    Calls Try.prog 12 #[.agg #[.int .i64 h, .int .u64 l]] w
      fun e w' => e = .returned (.int .i64 (cmpI (V h l) 0)) ∧ Below w.heap.size w w' := by
  have c := cmp_spec h l 0 0 i isLo_0
  go_enter Try.func12, Try.ntmps12
  go_wp2_with (go_at_call 5; refine (c _).mono ?_; rintro e w' ⟨rfl, hb⟩)
  go_ret
  exact ⟨rfl, by refine Below.trans ?_ (hb.mono ?_) <;> go_grown⟩
end Go.Proofs.Ytjnjfdlmfinhfab
