/- sink: the laid sentinel; SinkNils as its frame wants it. -/
import Derived.Test.YtbahhlgcebgfeaaDoorRows
import Derived.Test.YtbahhlgcebgfeaaDoorSnk11
import Derived.LaidMore
import Derived.Stop.LaidErr
namespace Go.Proofs.YtbahhlgcebgfeaaDoor
set_option linter.unusedVariables false
set_option linter.unusedSimpArgs false
open Go.RowKit W Go.ChangeShapes Go.WideShapes Go.ChangeAt
theorem star_err : "*" ++ "errors.errorString" = "*errors.errorString" := by decide
theorem row_err (u : TypeId) (h : Tryd.prog.typeName? 3 u = some "*errors.errorString") : u = 90 := 
  typeName_ptr_named (nm := "errors.errorString") (by rw [star_err]; kernel_rfl) (by kernel_rfl) (by decide) u (by rw [star_err]; exact h)

theorem err_cell {W : World} (h : laidMetH Tryd.prog [("tumbler/sink.errFailed", Rows.laid_tumbler_sink_errFailed)] W) : ∃ ea, W.cell? ⟨0, 0, none⟩ = some (EV ea) := by
  rw [MakeChecks.laidMetH_plain _ _ _ (by kernel_rfl)] at h
  have hg : Tryd.prog.globalNamed "tumbler/sink.errFailed" = some 0 := by kernel_rfl
  obtain ⟨a, s, hv, _⟩ := laid_sentinel h hg (ti := 68) (by kernel_rfl) Tryd.underlying68 row_err Tryd.underlying90 Tryd.underlying116 rfl rfl Tryd.underlying9 (by kernel_rfl) (by kernel_rfl)
  exact ⟨a, by have := World.var?_cell hg hv 0; simpa using this⟩
theorem law_SinkNils (a0 : Int) (s1 : Option Addr) (c1 : Nat) (l1 : List UInt8) (w0 : (Lit.int .i64 a0).wf = true) (hc1 : l1.length ≤ c1) (hn1 : s1 = none → l1.length = 0 ∧ c1 = 0) (W : World) (hL : laidMetH Tryd.prog Rows.sinkNilsRow.laid W) (hx1 : IsBytes W s1 l1) :
    Calls Tryd.prog 4 #[.int .i64 a0, .slice s1 l1.length c1] W fun e w' => e = .returned (.bool true) ∧ Below W.heap.size W w' := by
  obtain ⟨ea, he⟩ := err_cell hL
  exact sink_nils he a0 _
end Go.Proofs.YtbahhlgcebgfeaaDoor
