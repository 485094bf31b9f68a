/-
  No cell of these rows narrows 'for every input' (looked for: loops, veiled, ifaces, maps, wideKeys, modest, calm, conditions, laid).
  DERIVED. THE GIVEN ROWS OF THIS SEAT. 8 by the template 'for every input the law returns true; each argument reads behind the call as it read before'; 0 by the template 'total and deterministic' (their statements: YtpkkcdbmhgmncaaTotals.lean).
  GIVEN WITH THE SEED: the statements are not yours to turn. If you find one false, say at which input.
  Laid BY PROGRAM, IN A SANDBOX (cutbox-rows.mjs): the forced cells as the released guide's own fill.sh prints them over the translation a0f1f34ee24e2def… (all of the seat's roots in one cut). By AI agents, Wed Nov 11 2026. No macro, syntax, notation, axiom, sorry.
-/
import Derived.Test.YtpkkcdbmhgmncaaChecked
import GoSem.Claim
import GoSem.ClaimJoined
import GoSem.ClaimMapViews
import Derived.JoinedTies
import Derived.KernelRfl
namespace Go.Proofs.Ytpkkcdbmhgmncaa
/- THE CELL 'sum', in the pinned program and in every row, IS THE sha256 OF THE DUMP (.gsa) THAT YtpkkcdbmhgmncaaProg.lean LOADS. Nothing in Lean hashes anything: it is a label: what it is worth is what the hold of that sum in a sandbox is worth. -/
noncomputable def Try.pinned : Pinned := { name := "ytpkkcdbmhgmncaa", sum := "a0f1f34ee24e2def7984c1e8f0a332da8d032128c8911ca73c10959f9cb19fe3", checked := Try.checked }
namespace Rows
def none {H : Type} : Left H := { results := [], args := [] }

/-- 'tumblerlaw06.WindowPlays': WHATEVER THE INPUT: true; the input reads as it did. -/
def windowPlaysSpec : ChangeSpec := { name := "windowPlays", fn := fun _ => fun
  | [d1, d2] => { results := [.lit (.bool true)], args := [d1, d2] }
  | _ => none }
def windowPlaysRow : OpenClaim := { program := "ytpkkcdbmhgmncaa", sum := "a0f1f34ee24e2def7984c1e8f0a332da8d032128c8911ca73c10959f9cb19fe3", func := "tumbler/tumblerlaw06.WindowPlays", spec := "windowPlays", recurses := true, apart := false }
def WindowPlaysSaid : Prop := windowPlaysRow.holds Try.pinned (OpenSpec.ofChange windowPlaysSpec)

/-- ITS FALSE NEIGHBOUR: 'it returns false'. Refute it at one input. -/
def windowPlaysWrong : ChangeSpec := { name := "windowPlays", fn := fun _ => fun
  | [d1, d2] => { results := [.lit (.bool false)], args := [d1, d2] }
  | _ => none }
def WindowPlaysWrongFalsely : Prop := windowPlaysRow.holds Try.pinned (OpenSpec.ofChange windowPlaysWrong)

/-- 'tumblerlaw06.WindowOnce': WHATEVER THE INPUT: true; the input reads as it did. -/
def windowOnceSpec : ChangeSpec := { name := "windowOnce", fn := fun _ => fun
  | [d1, d2] => { results := [.lit (.bool true)], args := [d1, d2] }
  | _ => none }
def windowOnceRow : OpenClaim := { program := "ytpkkcdbmhgmncaa", sum := "a0f1f34ee24e2def7984c1e8f0a332da8d032128c8911ca73c10959f9cb19fe3", func := "tumbler/tumblerlaw06.WindowOnce", spec := "windowOnce", recurses := true, apart := false }
def WindowOnceSaid : Prop := windowOnceRow.holds Try.pinned (OpenSpec.ofChange windowOnceSpec)

/-- ITS FALSE NEIGHBOUR: 'it returns false'. Refute it at one input. -/
def windowOnceWrong : ChangeSpec := { name := "windowOnce", fn := fun _ => fun
  | [d1, d2] => { results := [.lit (.bool false)], args := [d1, d2] }
  | _ => none }
def WindowOnceWrongFalsely : Prop := windowOnceRow.holds Try.pinned (OpenSpec.ofChange windowOnceWrong)

/-- 'tumblerlaw11.SourceKeeps': WHATEVER THE INPUT: true; the input reads as it did. -/
def sourceKeepsSpec : ChangeSpec := { name := "sourceKeeps", fn := fun _ => fun
  | [d1, d2, d3, d4] => { results := [.lit (.bool true)], args := [d1, d2, d3, d4] }
  | _ => none }
def sourceKeepsRow : OpenClaim := { program := "ytpkkcdbmhgmncaa", sum := "a0f1f34ee24e2def7984c1e8f0a332da8d032128c8911ca73c10959f9cb19fe3", func := "tumbler/tumblerlaw11.SourceKeeps", spec := "sourceKeeps", inPlace := ["internal/bytealg.abigen_runtime_cmpstring"], unfollowed := true, recurses := true, apart := false }
def SourceKeepsSaid : Prop := sourceKeepsRow.holds Try.pinned (OpenSpec.ofChange sourceKeepsSpec)

/-- ITS FALSE NEIGHBOUR: 'it returns false'. Refute it at one input. -/
def sourceKeepsWrong : ChangeSpec := { name := "sourceKeeps", fn := fun _ => fun
  | [d1, d2, d3, d4] => { results := [.lit (.bool false)], args := [d1, d2, d3, d4] }
  | _ => none }
def SourceKeepsWrongFalsely : Prop := sourceKeepsRow.holds Try.pinned (OpenSpec.ofChange sourceKeepsWrong)

/-- 'tumblerlaw11.SourceNeverFalls': WHATEVER THE INPUT: true; the input reads as it did. -/
def sourceNeverFallsSpec : ChangeSpec := { name := "sourceNeverFalls", fn := fun _ => fun
  | [d1, d2] => { results := [.lit (.bool true)], args := [d1, d2] }
  | _ => none }
def sourceNeverFallsRow : OpenClaim := { program := "ytpkkcdbmhgmncaa", sum := "a0f1f34ee24e2def7984c1e8f0a332da8d032128c8911ca73c10959f9cb19fe3", func := "tumbler/tumblerlaw11.SourceNeverFalls", spec := "sourceNeverFalls", inPlace := ["internal/bytealg.abigen_runtime_cmpstring"], unfollowed := true, recurses := true, apart := false }
def SourceNeverFallsSaid : Prop := sourceNeverFallsRow.holds Try.pinned (OpenSpec.ofChange sourceNeverFallsSpec)

/-- ITS FALSE NEIGHBOUR: 'it returns false'. Refute it at one input. -/
def sourceNeverFallsWrong : ChangeSpec := { name := "sourceNeverFalls", fn := fun _ => fun
  | [d1, d2] => { results := [.lit (.bool false)], args := [d1, d2] }
  | _ => none }
def SourceNeverFallsWrongFalsely : Prop := sourceNeverFallsRow.holds Try.pinned (OpenSpec.ofChange sourceNeverFallsWrong)

/-- 'tumblerlaw11.SourceSilent': WHATEVER THE INPUT: true; the input reads as it did. -/
def sourceSilentSpec : ChangeSpec := { name := "sourceSilent", fn := fun _ => fun
  | [d1, d2, d3] => { results := [.lit (.bool true)], args := [d1, d2, d3] }
  | _ => none }
def sourceSilentRow : OpenClaim := { program := "ytpkkcdbmhgmncaa", sum := "a0f1f34ee24e2def7984c1e8f0a332da8d032128c8911ca73c10959f9cb19fe3", func := "tumbler/tumblerlaw11.SourceSilent", spec := "sourceSilent", inPlace := ["internal/bytealg.abigen_runtime_cmpstring"], unfollowed := true, recurses := true, apart := false }
def SourceSilentSaid : Prop := sourceSilentRow.holds Try.pinned (OpenSpec.ofChange sourceSilentSpec)

/-- ITS FALSE NEIGHBOUR: 'it returns false'. Refute it at one input. -/
def sourceSilentWrong : ChangeSpec := { name := "sourceSilent", fn := fun _ => fun
  | [d1, d2, d3] => { results := [.lit (.bool false)], args := [d1, d2, d3] }
  | _ => none }
def SourceSilentWrongFalsely : Prop := sourceSilentRow.holds Try.pinned (OpenSpec.ofChange sourceSilentWrong)

/-- 'tumblerlaw11.SourceOrder': WHATEVER THE INPUT: true; the input reads as it did. -/
def sourceOrderSpec : ChangeSpec := { name := "sourceOrder", fn := fun _ => fun
  | [d1, d2, d3] => { results := [.lit (.bool true)], args := [d1, d2, d3] }
  | _ => none }
def sourceOrderRow : OpenClaim := { program := "ytpkkcdbmhgmncaa", sum := "a0f1f34ee24e2def7984c1e8f0a332da8d032128c8911ca73c10959f9cb19fe3", func := "tumbler/tumblerlaw11.SourceOrder", spec := "sourceOrder", inPlace := ["internal/bytealg.abigen_runtime_cmpstring"], unfollowed := true, recurses := true, apart := false }
def SourceOrderSaid : Prop := sourceOrderRow.holds Try.pinned (OpenSpec.ofChange sourceOrderSpec)

/-- ITS FALSE NEIGHBOUR: 'it returns false'. Refute it at one input. -/
def sourceOrderWrong : ChangeSpec := { name := "sourceOrder", fn := fun _ => fun
  | [d1, d2, d3] => { results := [.lit (.bool false)], args := [d1, d2, d3] }
  | _ => none }
def SourceOrderWrongFalsely : Prop := sourceOrderRow.holds Try.pinned (OpenSpec.ofChange sourceOrderWrong)

/-- 'tumblerlaw11.SourceOwn': WHATEVER THE INPUT: true; the input reads as it did. -/
def sourceOwnSpec : ChangeSpec := { name := "sourceOwn", fn := fun _ => fun
  | [d] => { results := [.lit (.bool true)], args := [d] }
  | _ => none }
def sourceOwnRow : OpenClaim := { program := "ytpkkcdbmhgmncaa", sum := "a0f1f34ee24e2def7984c1e8f0a332da8d032128c8911ca73c10959f9cb19fe3", func := "tumbler/tumblerlaw11.SourceOwn", spec := "sourceOwn", inPlace := ["internal/bytealg.abigen_runtime_cmpstring"], unfollowed := true, recurses := true, apart := false }
def SourceOwnSaid : Prop := sourceOwnRow.holds Try.pinned (OpenSpec.ofChange sourceOwnSpec)

/-- ITS FALSE NEIGHBOUR: 'it returns false'. Refute it at one input. -/
def sourceOwnWrong : ChangeSpec := { name := "sourceOwn", fn := fun _ => fun
  | [d] => { results := [.lit (.bool false)], args := [d] }
  | _ => none }
def SourceOwnWrongFalsely : Prop := sourceOwnRow.holds Try.pinned (OpenSpec.ofChange sourceOwnWrong)

/-- 'tumblerlaw11.SourceNobody': WHATEVER THE INPUT: true; the input reads as it did. -/
def sourceNobodySpec : ChangeSpec := { name := "sourceNobody", fn := fun _ => fun
  | [d1, d2, d3] => { results := [.lit (.bool true)], args := [d1, d2, d3] }
  | _ => none }
def sourceNobodyRow : OpenClaim := { program := "ytpkkcdbmhgmncaa", sum := "a0f1f34ee24e2def7984c1e8f0a332da8d032128c8911ca73c10959f9cb19fe3", func := "tumbler/tumblerlaw11.SourceNobody", spec := "sourceNobody", inPlace := ["internal/bytealg.abigen_runtime_cmpstring"], unfollowed := true, recurses := true, apart := false }
def SourceNobodySaid : Prop := sourceNobodyRow.holds Try.pinned (OpenSpec.ofChange sourceNobodySpec)

/-- ITS FALSE NEIGHBOUR: 'it returns false'. Refute it at one input. -/
def sourceNobodyWrong : ChangeSpec := { name := "sourceNobody", fn := fun _ => fun
  | [d1, d2, d3] => { results := [.lit (.bool false)], args := [d1, d2, d3] }
  | _ => none }
def SourceNobodyWrongFalsely : Prop := sourceNobodyRow.holds Try.pinned (OpenSpec.ofChange sourceNobodyWrong)

/- THE SECOND FORM. 'bulk': how many values and letters a reading holds, each counted each time it is reached (what is shared counts as often as it is met; a slice's spare places count too). A statement '..UptoSaid' is the law's where the arguments, and the package variables that the reading takes, are together of bulk at most 1048576: NARROWER than '..Said'. Prove '..Said' where nothing that the law and all that it calls make is longer than what came in: it says more and counts as full. Else prove '..UptoSaid'. A law counts once. -/
mutual
def uptoBulk {H : Type} : DataW H → Nat
  | .lit (.string bytes) => bytes.length + 1
  | .lit _ => 1
  | .nil => 1
  | .ptr d => uptoBulk d + 1
  | .slice elems spare => uptoBulkAll elems + uptoBulkAll spare + 1
  | .agg parts => uptoBulkAll parts + 1
  | .iface _ d => uptoBulk d + 1
  | .map entries => uptoBulkEntries entries + 1
  | .held _ => 1
def uptoBulkAll {H : Type} : List (DataW H) → Nat
  | [] => 0
  | d :: r => uptoBulk d + uptoBulkAll r
def uptoBulkEntries {H : Type} : List (Lit × DataW H) → Nat
  | [] => 0
  | x :: r => uptoBulkEntry x + uptoBulkEntries r
def uptoBulkEntry {H : Type} : Lit × DataW H → Nat
  | (.string bytes, d) => bytes.length + uptoBulk d + 1
  | (_, d) => uptoBulk d + 1
 end
def uptoSmall : (H : Type) → List (DataW H) → Bool := fun _ ds => decide (uptoBulkAll ds ≤ 1048576)
def OpenSpec.upto (s : _root_.Go.ChangeSpec) : _root_.Go.OpenSpec := { _root_.Go.OpenSpec.ofChange s with cond := some uptoSmall }

/-- 'tumblerlaw06.WindowPlays', WHERE WHAT IT READS IS OF BULK AT MOST 1048576: true; the input reads as it did. -/
def windowPlaysUptoRow : OpenClaim := { program := "ytpkkcdbmhgmncaa", sum := "a0f1f34ee24e2def7984c1e8f0a332da8d032128c8911ca73c10959f9cb19fe3", func := "tumbler/tumblerlaw06.WindowPlays", spec := "windowPlays", recurses := true, apart := false, narrowed := true }
def WindowPlaysUptoSaid : Prop := windowPlaysUptoRow.holds Try.pinned (OpenSpec.upto windowPlaysSpec)

/-- 'tumblerlaw06.WindowOnce', WHERE WHAT IT READS IS OF BULK AT MOST 1048576: true; the input reads as it did. -/
def windowOnceUptoRow : OpenClaim := { program := "ytpkkcdbmhgmncaa", sum := "a0f1f34ee24e2def7984c1e8f0a332da8d032128c8911ca73c10959f9cb19fe3", func := "tumbler/tumblerlaw06.WindowOnce", spec := "windowOnce", recurses := true, apart := false, narrowed := true }
def WindowOnceUptoSaid : Prop := windowOnceUptoRow.holds Try.pinned (OpenSpec.upto windowOnceSpec)

/-- 'tumblerlaw11.SourceKeeps', WHERE WHAT IT READS IS OF BULK AT MOST 1048576: true; the input reads as it did. -/
def sourceKeepsUptoRow : OpenClaim := { program := "ytpkkcdbmhgmncaa", sum := "a0f1f34ee24e2def7984c1e8f0a332da8d032128c8911ca73c10959f9cb19fe3", func := "tumbler/tumblerlaw11.SourceKeeps", spec := "sourceKeeps", inPlace := ["internal/bytealg.abigen_runtime_cmpstring"], unfollowed := true, recurses := true, apart := false, narrowed := true }
def SourceKeepsUptoSaid : Prop := sourceKeepsUptoRow.holds Try.pinned (OpenSpec.upto sourceKeepsSpec)

/-- 'tumblerlaw11.SourceNeverFalls', WHERE WHAT IT READS IS OF BULK AT MOST 1048576: true; the input reads as it did. -/
def sourceNeverFallsUptoRow : OpenClaim := { program := "ytpkkcdbmhgmncaa", sum := "a0f1f34ee24e2def7984c1e8f0a332da8d032128c8911ca73c10959f9cb19fe3", func := "tumbler/tumblerlaw11.SourceNeverFalls", spec := "sourceNeverFalls", inPlace := ["internal/bytealg.abigen_runtime_cmpstring"], unfollowed := true, recurses := true, apart := false, narrowed := true }
def SourceNeverFallsUptoSaid : Prop := sourceNeverFallsUptoRow.holds Try.pinned (OpenSpec.upto sourceNeverFallsSpec)

/-- 'tumblerlaw11.SourceSilent', WHERE WHAT IT READS IS OF BULK AT MOST 1048576: true; the input reads as it did. -/
def sourceSilentUptoRow : OpenClaim := { program := "ytpkkcdbmhgmncaa", sum := "a0f1f34ee24e2def7984c1e8f0a332da8d032128c8911ca73c10959f9cb19fe3", func := "tumbler/tumblerlaw11.SourceSilent", spec := "sourceSilent", inPlace := ["internal/bytealg.abigen_runtime_cmpstring"], unfollowed := true, recurses := true, apart := false, narrowed := true }
def SourceSilentUptoSaid : Prop := sourceSilentUptoRow.holds Try.pinned (OpenSpec.upto sourceSilentSpec)

/-- 'tumblerlaw11.SourceOrder', WHERE WHAT IT READS IS OF BULK AT MOST 1048576: true; the input reads as it did. -/
def sourceOrderUptoRow : OpenClaim := { program := "ytpkkcdbmhgmncaa", sum := "a0f1f34ee24e2def7984c1e8f0a332da8d032128c8911ca73c10959f9cb19fe3", func := "tumbler/tumblerlaw11.SourceOrder", spec := "sourceOrder", inPlace := ["internal/bytealg.abigen_runtime_cmpstring"], unfollowed := true, recurses := true, apart := false, narrowed := true }
def SourceOrderUptoSaid : Prop := sourceOrderUptoRow.holds Try.pinned (OpenSpec.upto sourceOrderSpec)

/-- 'tumblerlaw11.SourceOwn', WHERE WHAT IT READS IS OF BULK AT MOST 1048576: true; the input reads as it did. -/
def sourceOwnUptoRow : OpenClaim := { program := "ytpkkcdbmhgmncaa", sum := "a0f1f34ee24e2def7984c1e8f0a332da8d032128c8911ca73c10959f9cb19fe3", func := "tumbler/tumblerlaw11.SourceOwn", spec := "sourceOwn", inPlace := ["internal/bytealg.abigen_runtime_cmpstring"], unfollowed := true, recurses := true, apart := false, narrowed := true }
def SourceOwnUptoSaid : Prop := sourceOwnUptoRow.holds Try.pinned (OpenSpec.upto sourceOwnSpec)

/-- 'tumblerlaw11.SourceNobody', WHERE WHAT IT READS IS OF BULK AT MOST 1048576: true; the input reads as it did. -/
def sourceNobodyUptoRow : OpenClaim := { program := "ytpkkcdbmhgmncaa", sum := "a0f1f34ee24e2def7984c1e8f0a332da8d032128c8911ca73c10959f9cb19fe3", func := "tumbler/tumblerlaw11.SourceNobody", spec := "sourceNobody", inPlace := ["internal/bytealg.abigen_runtime_cmpstring"], unfollowed := true, recurses := true, apart := false, narrowed := true }
def SourceNobodyUptoSaid : Prop := sourceNobodyUptoRow.holds Try.pinned (OpenSpec.upto sourceNobodySpec)

end Rows
end Go.Proofs.Ytpkkcdbmhgmncaa
