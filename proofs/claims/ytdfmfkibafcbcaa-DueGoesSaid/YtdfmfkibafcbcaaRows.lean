/-
  No cell of these rows narrows 'for every input' (looked for: loops, veiled, ifaces, maps, wideKeys, modest, calm, conditions, laid).
  DERIVED. THE GIVEN ROWS OF THIS SEAT. 3 by the template 'for every input the law returns true; each argument reads behind the call as it read before'; 0 by the template 'total and deterministic' (their statements: YtdfmfkibafcbcaaTotals.lean).
  GIVEN WITH THE SEED: the statements are not yours to turn. If you find one false, say at which input.
  Laid BY PROGRAM, IN A SANDBOX (cutbox-rows.mjs): the forced cells as the released guide's own fill.sh prints them over the translation dfb1c5570e23a819… (all of the seat's roots in one cut). By AI agents, Wed Nov 11 2026. No macro, syntax, notation, axiom, sorry.
-/
import Derived.Test.YtdfmfkibafcbcaaChecked
import GoSem.Claim
import GoSem.ClaimJoined
import GoSem.ClaimMapViews
import Derived.JoinedTies
import Derived.KernelRfl
namespace Go.Proofs.Ytdfmfkibafcbcaa
/- THE CELL 'sum', in the pinned program and in every row, IS THE sha256 OF THE DUMP (.gsa) THAT YtdfmfkibafcbcaaProg.lean LOADS. Nothing in Lean hashes anything: it is a label: what it is worth is what the hold of that sum in a sandbox is worth. -/
noncomputable def Try.pinned : Pinned := { name := "ytdfmfkibafcbcaa", sum := "dfb1c5570e23a819325be8c9ac925bba6e1fc464eee13d3d075442f68970167c", checked := Try.checked }
namespace Rows
def none {H : Type} : Left H := { results := [], args := [] }

/-- 'tumblerlaw07.DueKeeps': WHATEVER THE INPUT: true; the input reads as it did. -/
def dueKeepsSpec : ChangeSpec := { name := "dueKeeps", fn := fun _ => fun
  | [d1, d2] => { results := [.lit (.bool true)], args := [d1, d2] }
  | _ => none }
def dueKeepsRow : OpenClaim := { program := "ytdfmfkibafcbcaa", sum := "dfb1c5570e23a819325be8c9ac925bba6e1fc464eee13d3d075442f68970167c", func := "tumbler/tumblerlaw07.DueKeeps", spec := "dueKeeps", unfollowed := true, recurses := true, apart := false }
def DueKeepsSaid : Prop := dueKeepsRow.holds Try.pinned (OpenSpec.ofChange dueKeepsSpec)

/-- ITS FALSE NEIGHBOUR: 'it returns false'. Refute it at one input. -/
def dueKeepsWrong : ChangeSpec := { name := "dueKeeps", fn := fun _ => fun
  | [d1, d2] => { results := [.lit (.bool false)], args := [d1, d2] }
  | _ => none }
def DueKeepsWrongFalsely : Prop := dueKeepsRow.holds Try.pinned (OpenSpec.ofChange dueKeepsWrong)

/-- 'tumblerlaw07.DueGoes': WHATEVER THE INPUT: true; the input reads as it did. -/
def dueGoesSpec : ChangeSpec := { name := "dueGoes", fn := fun _ => fun
  | [d1, d2, d3, d4] => { results := [.lit (.bool true)], args := [d1, d2, d3, d4] }
  | _ => none }
def dueGoesRow : OpenClaim := { program := "ytdfmfkibafcbcaa", sum := "dfb1c5570e23a819325be8c9ac925bba6e1fc464eee13d3d075442f68970167c", func := "tumbler/tumblerlaw07.DueGoes", spec := "dueGoes", unfollowed := true, recurses := true, apart := false }
def DueGoesSaid : Prop := dueGoesRow.holds Try.pinned (OpenSpec.ofChange dueGoesSpec)

/-- ITS FALSE NEIGHBOUR: 'it returns false'. Refute it at one input. -/
def dueGoesWrong : ChangeSpec := { name := "dueGoes", fn := fun _ => fun
  | [d1, d2, d3, d4] => { results := [.lit (.bool false)], args := [d1, d2, d3, d4] }
  | _ => none }
def DueGoesWrongFalsely : Prop := dueGoesRow.holds Try.pinned (OpenSpec.ofChange dueGoesWrong)

/-- 'tumblerlaw07.DueOwn': WHATEVER THE INPUT: true; the input reads as it did. -/
def dueOwnSpec : ChangeSpec := { name := "dueOwn", fn := fun _ => fun
  | [d1, d2] => { results := [.lit (.bool true)], args := [d1, d2] }
  | _ => none }
def dueOwnRow : OpenClaim := { program := "ytdfmfkibafcbcaa", sum := "dfb1c5570e23a819325be8c9ac925bba6e1fc464eee13d3d075442f68970167c", func := "tumbler/tumblerlaw07.DueOwn", spec := "dueOwn", unfollowed := true, recurses := true, apart := false }
def DueOwnSaid : Prop := dueOwnRow.holds Try.pinned (OpenSpec.ofChange dueOwnSpec)

/-- ITS FALSE NEIGHBOUR: 'it returns false'. Refute it at one input. -/
def dueOwnWrong : ChangeSpec := { name := "dueOwn", fn := fun _ => fun
  | [d1, d2] => { results := [.lit (.bool false)], args := [d1, d2] }
  | _ => none }
def DueOwnWrongFalsely : Prop := dueOwnRow.holds Try.pinned (OpenSpec.ofChange dueOwnWrong)

/- THE SECOND FORM. 'bulk': how many values and letters a reading holds, each counted each time it is reached (what is shared counts as often as it is met; a slice's spare places count too). A statement '..UptoSaid' is the law's where the arguments, and the package variables that the reading takes, are together of bulk at most 1048576: NARROWER than '..Said'. Prove '..Said' where nothing that the law and all that it calls make is longer than what came in: it says more and counts as full. Else prove '..UptoSaid'. A law counts once. -/
mutual
def uptoBulk {H : Type} : DataW H → Nat
  | .lit (.string bytes) => bytes.length + 1
  | .lit _ => 1
  | .nil => 1
  | .ptr d => uptoBulk d + 1
  | .slice elems spare => uptoBulkAll elems + uptoBulkAll spare + 1
  | .agg parts => uptoBulkAll parts + 1
  | .iface _ d => uptoBulk d + 1
  | .map entries => uptoBulkEntries entries + 1
  | .held _ => 1
def uptoBulkAll {H : Type} : List (DataW H) → Nat
  | [] => 0
  | d :: r => uptoBulk d + uptoBulkAll r
def uptoBulkEntries {H : Type} : List (Lit × DataW H) → Nat
  | [] => 0
  | x :: r => uptoBulkEntry x + uptoBulkEntries r
def uptoBulkEntry {H : Type} : Lit × DataW H → Nat
  | (.string bytes, d) => bytes.length + uptoBulk d + 1
  | (_, d) => uptoBulk d + 1
 end
def uptoSmall : (H : Type) → List (DataW H) → Bool := fun _ ds => decide (uptoBulkAll ds ≤ 1048576)
def OpenSpec.upto (s : _root_.Go.ChangeSpec) : _root_.Go.OpenSpec := { _root_.Go.OpenSpec.ofChange s with cond := some uptoSmall }

/-- 'tumblerlaw07.DueKeeps', WHERE WHAT IT READS IS OF BULK AT MOST 1048576: true; the input reads as it did. -/
def dueKeepsUptoRow : OpenClaim := { program := "ytdfmfkibafcbcaa", sum := "dfb1c5570e23a819325be8c9ac925bba6e1fc464eee13d3d075442f68970167c", func := "tumbler/tumblerlaw07.DueKeeps", spec := "dueKeeps", unfollowed := true, recurses := true, apart := false, narrowed := true }
def DueKeepsUptoSaid : Prop := dueKeepsUptoRow.holds Try.pinned (OpenSpec.upto dueKeepsSpec)

/-- 'tumblerlaw07.DueGoes', WHERE WHAT IT READS IS OF BULK AT MOST 1048576: true; the input reads as it did. -/
def dueGoesUptoRow : OpenClaim := { program := "ytdfmfkibafcbcaa", sum := "dfb1c5570e23a819325be8c9ac925bba6e1fc464eee13d3d075442f68970167c", func := "tumbler/tumblerlaw07.DueGoes", spec := "dueGoes", unfollowed := true, recurses := true, apart := false, narrowed := true }
def DueGoesUptoSaid : Prop := dueGoesUptoRow.holds Try.pinned (OpenSpec.upto dueGoesSpec)

/-- 'tumblerlaw07.DueOwn', WHERE WHAT IT READS IS OF BULK AT MOST 1048576: true; the input reads as it did. -/
def dueOwnUptoRow : OpenClaim := { program := "ytdfmfkibafcbcaa", sum := "dfb1c5570e23a819325be8c9ac925bba6e1fc464eee13d3d075442f68970167c", func := "tumbler/tumblerlaw07.DueOwn", spec := "dueOwn", unfollowed := true, recurses := true, apart := false, narrowed := true }
def DueOwnUptoSaid : Prop := dueOwnUptoRow.holds Try.pinned (OpenSpec.upto dueOwnSpec)

end Rows
end Go.Proofs.Ytdfmfkibafcbcaa
