/-
  No cell of these rows narrows 'for every input' (looked for: loops, veiled, ifaces, maps, wideKeys, modest, calm, conditions, laid).
  DERIVED. THE GIVEN ROWS OF THIS SEAT. 11 by the template 'for every input the law returns true; each argument reads behind the call as it read before'; 0 by the template 'total and deterministic' (their statements: YtbnlhjooimppeaaTotals.lean).
  GIVEN WITH THE SEED: the statements are not yours to turn. If you find one false, say at which input.
  Laid BY PROGRAM, IN A SANDBOX (cutbox-rows.mjs): the forced cells as the released guide's own fill.sh prints them over the translation 62b9a10c33b34423… (all of the seat's roots in one cut). By AI agents, Wed Nov 11 2026. No macro, syntax, notation, axiom, sorry.
-/
import Derived.Test.YtbnlhjooimppeaaChecked
import GoSem.Claim
import GoSem.ClaimJoined
import GoSem.ClaimMapViews
import Derived.JoinedTies
import Derived.KernelRfl
namespace Go.Proofs.Ytbnlhjooimppeaa
/- THE CELL 'sum', in the pinned program and in every row, IS THE sha256 OF THE DUMP (.gsa) THAT YtbnlhjooimppeaaProg.lean LOADS. Nothing in Lean hashes anything: it is a label: what it is worth is what the hold of that sum in a sandbox is worth. -/
noncomputable def Try.pinned : Pinned := { name := "ytbnlhjooimppeaa", sum := "62b9a10c33b344230d88d2e1f96c6c73989d76c77e714c05c7406119a51367e0", checked := Try.checked }
namespace Rows
def none {H : Type} : Left H := { results := [], args := [] }

/-- 'tumblerlaw07.DueKeeps': WHATEVER THE INPUT: true; the input reads as it did. -/
def dueKeepsSpec : ChangeSpec := { name := "dueKeeps", fn := fun _ => fun
  | [d1, d2] => { results := [.lit (.bool true)], args := [d1, d2] }
  | _ => none }
def dueKeepsRow : OpenClaim := { program := "ytbnlhjooimppeaa", sum := "62b9a10c33b344230d88d2e1f96c6c73989d76c77e714c05c7406119a51367e0", func := "tumbler/tumblerlaw07.DueKeeps", spec := "dueKeeps", unfollowed := true, recurses := true, apart := false }
def DueKeepsSaid : Prop := dueKeepsRow.holds Try.pinned (OpenSpec.ofChange dueKeepsSpec)

/-- ITS FALSE NEIGHBOUR: 'it returns false'. Refute it at one input. -/
def dueKeepsWrong : ChangeSpec := { name := "dueKeeps", fn := fun _ => fun
  | [d1, d2] => { results := [.lit (.bool false)], args := [d1, d2] }
  | _ => none }
def DueKeepsWrongFalsely : Prop := dueKeepsRow.holds Try.pinned (OpenSpec.ofChange dueKeepsWrong)

/-- 'tumblerlaw07.DueSorts': WHATEVER THE INPUT: true; the input reads as it did. -/
def dueSortsSpec : ChangeSpec := { name := "dueSorts", fn := fun _ => fun
  | [d1, d2] => { results := [.lit (.bool true)], args := [d1, d2] }
  | _ => none }
def dueSortsRow : OpenClaim := { program := "ytbnlhjooimppeaa", sum := "62b9a10c33b344230d88d2e1f96c6c73989d76c77e714c05c7406119a51367e0", func := "tumbler/tumblerlaw07.DueSorts", spec := "dueSorts", unfollowed := true, recurses := true, apart := false }
def DueSortsSaid : Prop := dueSortsRow.holds Try.pinned (OpenSpec.ofChange dueSortsSpec)

/-- ITS FALSE NEIGHBOUR: 'it returns false'. Refute it at one input. -/
def dueSortsWrong : ChangeSpec := { name := "dueSorts", fn := fun _ => fun
  | [d1, d2] => { results := [.lit (.bool false)], args := [d1, d2] }
  | _ => none }
def DueSortsWrongFalsely : Prop := dueSortsRow.holds Try.pinned (OpenSpec.ofChange dueSortsWrong)

/-- 'tumblerlaw07.DueGoes': WHATEVER THE INPUT: true; the input reads as it did. -/
def dueGoesSpec : ChangeSpec := { name := "dueGoes", fn := fun _ => fun
  | [d1, d2, d3, d4] => { results := [.lit (.bool true)], args := [d1, d2, d3, d4] }
  | _ => none }
def dueGoesRow : OpenClaim := { program := "ytbnlhjooimppeaa", sum := "62b9a10c33b344230d88d2e1f96c6c73989d76c77e714c05c7406119a51367e0", func := "tumbler/tumblerlaw07.DueGoes", spec := "dueGoes", unfollowed := true, recurses := true, apart := false }
def DueGoesSaid : Prop := dueGoesRow.holds Try.pinned (OpenSpec.ofChange dueGoesSpec)

/-- ITS FALSE NEIGHBOUR: 'it returns false'. Refute it at one input. -/
def dueGoesWrong : ChangeSpec := { name := "dueGoes", fn := fun _ => fun
  | [d1, d2, d3, d4] => { results := [.lit (.bool false)], args := [d1, d2, d3, d4] }
  | _ => none }
def DueGoesWrongFalsely : Prop := dueGoesRow.holds Try.pinned (OpenSpec.ofChange dueGoesWrong)

/-- 'tumblerlaw07.DueOwn': WHATEVER THE INPUT: true; the input reads as it did. -/
def dueOwnSpec : ChangeSpec := { name := "dueOwn", fn := fun _ => fun
  | [d1, d2] => { results := [.lit (.bool true)], args := [d1, d2] }
  | _ => none }
def dueOwnRow : OpenClaim := { program := "ytbnlhjooimppeaa", sum := "62b9a10c33b344230d88d2e1f96c6c73989d76c77e714c05c7406119a51367e0", func := "tumbler/tumblerlaw07.DueOwn", spec := "dueOwn", unfollowed := true, recurses := true, apart := false }
def DueOwnSaid : Prop := dueOwnRow.holds Try.pinned (OpenSpec.ofChange dueOwnSpec)

/-- ITS FALSE NEIGHBOUR: 'it returns false'. Refute it at one input. -/
def dueOwnWrong : ChangeSpec := { name := "dueOwn", fn := fun _ => fun
  | [d1, d2] => { results := [.lit (.bool false)], args := [d1, d2] }
  | _ => none }
def DueOwnWrongFalsely : Prop := dueOwnRow.holds Try.pinned (OpenSpec.ofChange dueOwnWrong)

/-- 'tumblerlaw07.DueNobody': WHATEVER THE INPUT: true; the input reads as it did. -/
def dueNobodySpec : ChangeSpec := { name := "dueNobody", fn := fun _ => fun
  | [d1, d2] => { results := [.lit (.bool true)], args := [d1, d2] }
  | _ => none }
def dueNobodyRow : OpenClaim := { program := "ytbnlhjooimppeaa", sum := "62b9a10c33b344230d88d2e1f96c6c73989d76c77e714c05c7406119a51367e0", func := "tumbler/tumblerlaw07.DueNobody", spec := "dueNobody", unfollowed := true, recurses := true, apart := false }
def DueNobodySaid : Prop := dueNobodyRow.holds Try.pinned (OpenSpec.ofChange dueNobodySpec)

/-- ITS FALSE NEIGHBOUR: 'it returns false'. Refute it at one input. -/
def dueNobodyWrong : ChangeSpec := { name := "dueNobody", fn := fun _ => fun
  | [d1, d2] => { results := [.lit (.bool false)], args := [d1, d2] }
  | _ => none }
def DueNobodyWrongFalsely : Prop := dueNobodyRow.holds Try.pinned (OpenSpec.ofChange dueNobodyWrong)

/-- 'tumblerlaw11.SourceKeeps': WHATEVER THE INPUT: true; the input reads as it did. -/
def sourceKeepsSpec : ChangeSpec := { name := "sourceKeeps", fn := fun _ => fun
  | [d1, d2, d3, d4] => { results := [.lit (.bool true)], args := [d1, d2, d3, d4] }
  | _ => none }
def sourceKeepsRow : OpenClaim := { program := "ytbnlhjooimppeaa", sum := "62b9a10c33b344230d88d2e1f96c6c73989d76c77e714c05c7406119a51367e0", func := "tumbler/tumblerlaw11.SourceKeeps", spec := "sourceKeeps", inPlace := ["internal/bytealg.abigen_runtime_cmpstring"], unfollowed := true, recurses := true, apart := false }
def SourceKeepsSaid : Prop := sourceKeepsRow.holds Try.pinned (OpenSpec.ofChange sourceKeepsSpec)

/-- ITS FALSE NEIGHBOUR: 'it returns false'. Refute it at one input. -/
def sourceKeepsWrong : ChangeSpec := { name := "sourceKeeps", fn := fun _ => fun
  | [d1, d2, d3, d4] => { results := [.lit (.bool false)], args := [d1, d2, d3, d4] }
  | _ => none }
def SourceKeepsWrongFalsely : Prop := sourceKeepsRow.holds Try.pinned (OpenSpec.ofChange sourceKeepsWrong)

/-- 'tumblerlaw11.SourceNeverFalls': WHATEVER THE INPUT: true; the input reads as it did. -/
def sourceNeverFallsSpec : ChangeSpec := { name := "sourceNeverFalls", fn := fun _ => fun
  | [d1, d2] => { results := [.lit (.bool true)], args := [d1, d2] }
  | _ => none }
def sourceNeverFallsRow : OpenClaim := { program := "ytbnlhjooimppeaa", sum := "62b9a10c33b344230d88d2e1f96c6c73989d76c77e714c05c7406119a51367e0", func := "tumbler/tumblerlaw11.SourceNeverFalls", spec := "sourceNeverFalls", inPlace := ["internal/bytealg.abigen_runtime_cmpstring"], unfollowed := true, recurses := true, apart := false }
def SourceNeverFallsSaid : Prop := sourceNeverFallsRow.holds Try.pinned (OpenSpec.ofChange sourceNeverFallsSpec)

/-- ITS FALSE NEIGHBOUR: 'it returns false'. Refute it at one input. -/
def sourceNeverFallsWrong : ChangeSpec := { name := "sourceNeverFalls", fn := fun _ => fun
  | [d1, d2] => { results := [.lit (.bool false)], args := [d1, d2] }
  | _ => none }
def SourceNeverFallsWrongFalsely : Prop := sourceNeverFallsRow.holds Try.pinned (OpenSpec.ofChange sourceNeverFallsWrong)

/-- 'tumblerlaw11.SourceSilent': WHATEVER THE INPUT: true; the input reads as it did. -/
def sourceSilentSpec : ChangeSpec := { name := "sourceSilent", fn := fun _ => fun
  | [d1, d2, d3] => { results := [.lit (.bool true)], args := [d1, d2, d3] }
  | _ => none }
def sourceSilentRow : OpenClaim := { program := "ytbnlhjooimppeaa", sum := "62b9a10c33b344230d88d2e1f96c6c73989d76c77e714c05c7406119a51367e0", func := "tumbler/tumblerlaw11.SourceSilent", spec := "sourceSilent", inPlace := ["internal/bytealg.abigen_runtime_cmpstring"], unfollowed := true, recurses := true, apart := false }
def SourceSilentSaid : Prop := sourceSilentRow.holds Try.pinned (OpenSpec.ofChange sourceSilentSpec)

/-- ITS FALSE NEIGHBOUR: 'it returns false'. Refute it at one input. -/
def sourceSilentWrong : ChangeSpec := { name := "sourceSilent", fn := fun _ => fun
  | [d1, d2, d3] => { results := [.lit (.bool false)], args := [d1, d2, d3] }
  | _ => none }
def SourceSilentWrongFalsely : Prop := sourceSilentRow.holds Try.pinned (OpenSpec.ofChange sourceSilentWrong)

/-- 'tumblerlaw11.SourceOrder': WHATEVER THE INPUT: true; the input reads as it did. -/
def sourceOrderSpec : ChangeSpec := { name := "sourceOrder", fn := fun _ => fun
  | [d1, d2, d3] => { results := [.lit (.bool true)], args := [d1, d2, d3] }
  | _ => none }
def sourceOrderRow : OpenClaim := { program := "ytbnlhjooimppeaa", sum := "62b9a10c33b344230d88d2e1f96c6c73989d76c77e714c05c7406119a51367e0", func := "tumbler/tumblerlaw11.SourceOrder", spec := "sourceOrder", inPlace := ["internal/bytealg.abigen_runtime_cmpstring"], unfollowed := true, recurses := true, apart := false }
def SourceOrderSaid : Prop := sourceOrderRow.holds Try.pinned (OpenSpec.ofChange sourceOrderSpec)

/-- ITS FALSE NEIGHBOUR: 'it returns false'. Refute it at one input. -/
def sourceOrderWrong : ChangeSpec := { name := "sourceOrder", fn := fun _ => fun
  | [d1, d2, d3] => { results := [.lit (.bool false)], args := [d1, d2, d3] }
  | _ => none }
def SourceOrderWrongFalsely : Prop := sourceOrderRow.holds Try.pinned (OpenSpec.ofChange sourceOrderWrong)

/-- 'tumblerlaw11.SourceOwn': WHATEVER THE INPUT: true; the input reads as it did. -/
def sourceOwnSpec : ChangeSpec := { name := "sourceOwn", fn := fun _ => fun
  | [d] => { results := [.lit (.bool true)], args := [d] }
  | _ => none }
def sourceOwnRow : OpenClaim := { program := "ytbnlhjooimppeaa", sum := "62b9a10c33b344230d88d2e1f96c6c73989d76c77e714c05c7406119a51367e0", func := "tumbler/tumblerlaw11.SourceOwn", spec := "sourceOwn", inPlace := ["internal/bytealg.abigen_runtime_cmpstring"], unfollowed := true, recurses := true, apart := false }
def SourceOwnSaid : Prop := sourceOwnRow.holds Try.pinned (OpenSpec.ofChange sourceOwnSpec)

/-- ITS FALSE NEIGHBOUR: 'it returns false'. Refute it at one input. -/
def sourceOwnWrong : ChangeSpec := { name := "sourceOwn", fn := fun _ => fun
  | [d] => { results := [.lit (.bool false)], args := [d] }
  | _ => none }
def SourceOwnWrongFalsely : Prop := sourceOwnRow.holds Try.pinned (OpenSpec.ofChange sourceOwnWrong)

/-- 'tumblerlaw11.SourceNobody': WHATEVER THE INPUT: true; the input reads as it did. -/
def sourceNobodySpec : ChangeSpec := { name := "sourceNobody", fn := fun _ => fun
  | [d1, d2, d3] => { results := [.lit (.bool true)], args := [d1, d2, d3] }
  | _ => none }
def sourceNobodyRow : OpenClaim := { program := "ytbnlhjooimppeaa", sum := "62b9a10c33b344230d88d2e1f96c6c73989d76c77e714c05c7406119a51367e0", func := "tumbler/tumblerlaw11.SourceNobody", spec := "sourceNobody", inPlace := ["internal/bytealg.abigen_runtime_cmpstring"], unfollowed := true, recurses := true, apart := false }
def SourceNobodySaid : Prop := sourceNobodyRow.holds Try.pinned (OpenSpec.ofChange sourceNobodySpec)

/-- ITS FALSE NEIGHBOUR: 'it returns false'. Refute it at one input. -/
def sourceNobodyWrong : ChangeSpec := { name := "sourceNobody", fn := fun _ => fun
  | [d1, d2, d3] => { results := [.lit (.bool false)], args := [d1, d2, d3] }
  | _ => none }
def SourceNobodyWrongFalsely : Prop := sourceNobodyRow.holds Try.pinned (OpenSpec.ofChange sourceNobodyWrong)

/- THE SECOND FORM. 'bulk': how many values and letters a reading holds, each counted each time it is reached (what is shared counts as often as it is met; a slice's spare places count too). A statement '..UptoSaid' is the law's where the arguments, and the package variables that the reading takes, are together of bulk at most 1048576: NARROWER than '..Said'. Prove '..Said' where nothing that the law and all that it calls make is longer than what came in: it says more and counts as full. Else prove '..UptoSaid'. A law counts once. -/
mutual
def uptoBulk {H : Type} : DataW H → Nat
  | .lit (.string bytes) => bytes.length + 1
  | .lit _ => 1
  | .nil => 1
  | .ptr d => uptoBulk d + 1
  | .slice elems spare => uptoBulkAll elems + uptoBulkAll spare + 1
  | .agg parts => uptoBulkAll parts + 1
  | .iface _ d => uptoBulk d + 1
  | .map entries => uptoBulkEntries entries + 1
  | .held _ => 1
def uptoBulkAll {H : Type} : List (DataW H) → Nat
  | [] => 0
  | d :: r => uptoBulk d + uptoBulkAll r
def uptoBulkEntries {H : Type} : List (Lit × DataW H) → Nat
  | [] => 0
  | x :: r => uptoBulkEntry x + uptoBulkEntries r
def uptoBulkEntry {H : Type} : Lit × DataW H → Nat
  | (.string bytes, d) => bytes.length + uptoBulk d + 1
  | (_, d) => uptoBulk d + 1
 end
def uptoSmall : (H : Type) → List (DataW H) → Bool := fun _ ds => decide (uptoBulkAll ds ≤ 1048576)
def OpenSpec.upto (s : _root_.Go.ChangeSpec) : _root_.Go.OpenSpec := { _root_.Go.OpenSpec.ofChange s with cond := some uptoSmall }

/-- 'tumblerlaw07.DueKeeps', WHERE WHAT IT READS IS OF BULK AT MOST 1048576: true; the input reads as it did. -/
def dueKeepsUptoRow : OpenClaim := { program := "ytbnlhjooimppeaa", sum := "62b9a10c33b344230d88d2e1f96c6c73989d76c77e714c05c7406119a51367e0", func := "tumbler/tumblerlaw07.DueKeeps", spec := "dueKeeps", unfollowed := true, recurses := true, apart := false, narrowed := true }
def DueKeepsUptoSaid : Prop := dueKeepsUptoRow.holds Try.pinned (OpenSpec.upto dueKeepsSpec)

/-- 'tumblerlaw07.DueSorts', WHERE WHAT IT READS IS OF BULK AT MOST 1048576: true; the input reads as it did. -/
def dueSortsUptoRow : OpenClaim := { program := "ytbnlhjooimppeaa", sum := "62b9a10c33b344230d88d2e1f96c6c73989d76c77e714c05c7406119a51367e0", func := "tumbler/tumblerlaw07.DueSorts", spec := "dueSorts", unfollowed := true, recurses := true, apart := false, narrowed := true }
def DueSortsUptoSaid : Prop := dueSortsUptoRow.holds Try.pinned (OpenSpec.upto dueSortsSpec)

/-- 'tumblerlaw07.DueGoes', WHERE WHAT IT READS IS OF BULK AT MOST 1048576: true; the input reads as it did. -/
def dueGoesUptoRow : OpenClaim := { program := "ytbnlhjooimppeaa", sum := "62b9a10c33b344230d88d2e1f96c6c73989d76c77e714c05c7406119a51367e0", func := "tumbler/tumblerlaw07.DueGoes", spec := "dueGoes", unfollowed := true, recurses := true, apart := false, narrowed := true }
def DueGoesUptoSaid : Prop := dueGoesUptoRow.holds Try.pinned (OpenSpec.upto dueGoesSpec)

/-- 'tumblerlaw07.DueOwn', WHERE WHAT IT READS IS OF BULK AT MOST 1048576: true; the input reads as it did. -/
def dueOwnUptoRow : OpenClaim := { program := "ytbnlhjooimppeaa", sum := "62b9a10c33b344230d88d2e1f96c6c73989d76c77e714c05c7406119a51367e0", func := "tumbler/tumblerlaw07.DueOwn", spec := "dueOwn", unfollowed := true, recurses := true, apart := false, narrowed := true }
def DueOwnUptoSaid : Prop := dueOwnUptoRow.holds Try.pinned (OpenSpec.upto dueOwnSpec)

/-- 'tumblerlaw07.DueNobody', WHERE WHAT IT READS IS OF BULK AT MOST 1048576: true; the input reads as it did. -/
def dueNobodyUptoRow : OpenClaim := { program := "ytbnlhjooimppeaa", sum := "62b9a10c33b344230d88d2e1f96c6c73989d76c77e714c05c7406119a51367e0", func := "tumbler/tumblerlaw07.DueNobody", spec := "dueNobody", unfollowed := true, recurses := true, apart := false, narrowed := true }
def DueNobodyUptoSaid : Prop := dueNobodyUptoRow.holds Try.pinned (OpenSpec.upto dueNobodySpec)

/-- 'tumblerlaw11.SourceKeeps', WHERE WHAT IT READS IS OF BULK AT MOST 1048576: true; the input reads as it did. -/
def sourceKeepsUptoRow : OpenClaim := { program := "ytbnlhjooimppeaa", sum := "62b9a10c33b344230d88d2e1f96c6c73989d76c77e714c05c7406119a51367e0", func := "tumbler/tumblerlaw11.SourceKeeps", spec := "sourceKeeps", inPlace := ["internal/bytealg.abigen_runtime_cmpstring"], unfollowed := true, recurses := true, apart := false, narrowed := true }
def SourceKeepsUptoSaid : Prop := sourceKeepsUptoRow.holds Try.pinned (OpenSpec.upto sourceKeepsSpec)

/-- 'tumblerlaw11.SourceNeverFalls', WHERE WHAT IT READS IS OF BULK AT MOST 1048576: true; the input reads as it did. -/
def sourceNeverFallsUptoRow : OpenClaim := { program := "ytbnlhjooimppeaa", sum := "62b9a10c33b344230d88d2e1f96c6c73989d76c77e714c05c7406119a51367e0", func := "tumbler/tumblerlaw11.SourceNeverFalls", spec := "sourceNeverFalls", inPlace := ["internal/bytealg.abigen_runtime_cmpstring"], unfollowed := true, recurses := true, apart := false, narrowed := true }
def SourceNeverFallsUptoSaid : Prop := sourceNeverFallsUptoRow.holds Try.pinned (OpenSpec.upto sourceNeverFallsSpec)

/-- 'tumblerlaw11.SourceSilent', WHERE WHAT IT READS IS OF BULK AT MOST 1048576: true; the input reads as it did. -/
def sourceSilentUptoRow : OpenClaim := { program := "ytbnlhjooimppeaa", sum := "62b9a10c33b344230d88d2e1f96c6c73989d76c77e714c05c7406119a51367e0", func := "tumbler/tumblerlaw11.SourceSilent", spec := "sourceSilent", inPlace := ["internal/bytealg.abigen_runtime_cmpstring"], unfollowed := true, recurses := true, apart := false, narrowed := true }
def SourceSilentUptoSaid : Prop := sourceSilentUptoRow.holds Try.pinned (OpenSpec.upto sourceSilentSpec)

/-- 'tumblerlaw11.SourceOrder', WHERE WHAT IT READS IS OF BULK AT MOST 1048576: true; the input reads as it did. -/
def sourceOrderUptoRow : OpenClaim := { program := "ytbnlhjooimppeaa", sum := "62b9a10c33b344230d88d2e1f96c6c73989d76c77e714c05c7406119a51367e0", func := "tumbler/tumblerlaw11.SourceOrder", spec := "sourceOrder", inPlace := ["internal/bytealg.abigen_runtime_cmpstring"], unfollowed := true, recurses := true, apart := false, narrowed := true }
def SourceOrderUptoSaid : Prop := sourceOrderUptoRow.holds Try.pinned (OpenSpec.upto sourceOrderSpec)

/-- 'tumblerlaw11.SourceOwn', WHERE WHAT IT READS IS OF BULK AT MOST 1048576: true; the input reads as it did. -/
def sourceOwnUptoRow : OpenClaim := { program := "ytbnlhjooimppeaa", sum := "62b9a10c33b344230d88d2e1f96c6c73989d76c77e714c05c7406119a51367e0", func := "tumbler/tumblerlaw11.SourceOwn", spec := "sourceOwn", inPlace := ["internal/bytealg.abigen_runtime_cmpstring"], unfollowed := true, recurses := true, apart := false, narrowed := true }
def SourceOwnUptoSaid : Prop := sourceOwnUptoRow.holds Try.pinned (OpenSpec.upto sourceOwnSpec)

/-- 'tumblerlaw11.SourceNobody', WHERE WHAT IT READS IS OF BULK AT MOST 1048576: true; the input reads as it did. -/
def sourceNobodyUptoRow : OpenClaim := { program := "ytbnlhjooimppeaa", sum := "62b9a10c33b344230d88d2e1f96c6c73989d76c77e714c05c7406119a51367e0", func := "tumbler/tumblerlaw11.SourceNobody", spec := "sourceNobody", inPlace := ["internal/bytealg.abigen_runtime_cmpstring"], unfollowed := true, recurses := true, apart := false, narrowed := true }
def SourceNobodyUptoSaid : Prop := sourceNobodyUptoRow.holds Try.pinned (OpenSpec.upto sourceNobodySpec)

end Rows
end Go.Proofs.Ytbnlhjooimppeaa
