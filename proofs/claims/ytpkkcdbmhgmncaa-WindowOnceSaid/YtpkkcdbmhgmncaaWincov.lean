/- window: Cover: the windows from one second up to another. -/
import Derived.Test.YtpkkcdbmhgmncaaWinref
namespace Go.Proofs.Ytpkkcdbmhgmncaa
set_option linter.unusedVariables false
open Go.RowKit W
theorem info_i64 : (Try.prog.info? 2).map (fun i => (i.zero, i.size, i.bytes)) = some (some (.int .i64 0), 1, 8) := by kernel_rfl
/-- The numbers from q on, k of them, as cells. -/
def runs (q : Int) (k : Nat) : List Value := (List.range k).map fun j : Nat => Value.int .i64 (q + (j : Int))
theorem runs_succ (q : Int) (k : Nat) : runs q (k + 1) = runs q k ++ [.int .i64 (q + k)] := by simp [runs, List.range_succ]
theorem runs_len (q : Int) (k : Nat) : (runs q k).length = k := by simp [runs]
theorem one_int {k : IntKind} {x : Int} : ∀ u ∈ [Value.int k x], u.oneCell' = true := by intro u hu; rw [List.mem_singleton] at hu; subst hu; rfl
/-- The slice that Cover answers. -/
structure Owns (w wr : World) (v : Value) (q : Int) (k : Nat) : Prop where
  own : wr.ownsRow w.heap.size 2 1 v k (runs q k)
  below : Below w.heap.size w wr
  nil : k = 0 → v = .slice none 0 0
def CoverPost (w : World) (q : Int) (n : Nat) (e : Ending) (w' : World) : Prop := ∃ v, e = .returned (.tuple #[v, .int .i64 0]) ∧ Owns w w' v q n
end Go.Proofs.Ytpkkcdbmhgmncaa
