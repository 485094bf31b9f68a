/-
  No cell of these rows narrows 'for every input' (looked for: loops, veiled, ifaces, maps, wideKeys, modest, calm, conditions, laid).
  DERIVED. THE GIVEN ROWS OF THIS SEAT. 5 by the template 'for every input the law returns true; each argument reads behind the call as it read before'; 0 by the template 'total and deterministic' (their statements: YtcbkaccbbebobaaTotals.lean).
  GIVEN WITH THE SEED: the statements are not yours to turn. If you find one false, say at which input.
  Laid BY PROGRAM, IN A SANDBOX (cutbox-rows.mjs): the forced cells as the released guide's own fill.sh prints them over the translation bea09b6db557296d… (all of the seat's roots in one cut). By AI agents, Wed Nov 11 2026. No macro, syntax, notation, axiom, sorry.
-/
import Derived.Test.YtcbkaccbbebobaaChecked
import GoSem.Claim
import GoSem.ClaimJoined
import GoSem.ClaimMapViews
import Derived.JoinedTies
import Derived.KernelRfl
namespace Go.Proofs.Ytcbkaccbbebobaa
/- THE CELL 'sum', in the pinned program and in every row, IS THE sha256 OF THE DUMP (.gsa) THAT YtcbkaccbbebobaaProg.lean LOADS. Nothing in Lean hashes anything: it is a label: what it is worth is what the hold of that sum in a sandbox is worth. -/
noncomputable def Try.pinned : Pinned := { name := "ytcbkaccbbebobaa", sum := "bea09b6db557296d7dd9f1df155bd52e21e65c6699677bd2f7d98bf8061c3958", checked := Try.checked }
namespace Rows
def none {H : Type} : Left H := { results := [], args := [] }

/-- 'tumblerlaw06.WindowNils': WHATEVER THE INPUT: true; the input reads as it did. -/
def windowNilsSpec : ChangeSpec := { name := "windowNils", fn := fun _ => fun
  | [d] => { results := [.lit (.bool true)], args := [d] }
  | _ => none }
def windowNilsRow : OpenClaim := { program := "ytcbkaccbbebobaa", sum := "bea09b6db557296d7dd9f1df155bd52e21e65c6699677bd2f7d98bf8061c3958", func := "tumbler/tumblerlaw06.WindowNils", spec := "windowNils", recurses := true, apart := false }
def WindowNilsSaid : Prop := windowNilsRow.holds Try.pinned (OpenSpec.ofChange windowNilsSpec)

/-- ITS FALSE NEIGHBOUR: 'it returns false'. Refute it at one input. -/
def windowNilsWrong : ChangeSpec := { name := "windowNils", fn := fun _ => fun
  | [d] => { results := [.lit (.bool false)], args := [d] }
  | _ => none }
def WindowNilsWrongFalsely : Prop := windowNilsRow.holds Try.pinned (OpenSpec.ofChange windowNilsWrong)

/-- 'tumblerlaw05.WireNobody': WHATEVER THE INPUT: true; the input reads as it did. -/
def wireNobodySpec : ChangeSpec := { name := "wireNobody", fn := fun _ => fun
  | [d1, d2] => { results := [.lit (.bool true)], args := [d1, d2] }
  | _ => none }
def wireNobodyRow : OpenClaim := { program := "ytcbkaccbbebobaa", sum := "bea09b6db557296d7dd9f1df155bd52e21e65c6699677bd2f7d98bf8061c3958", func := "tumbler/tumblerlaw05.WireNobody", spec := "wireNobody", inPlace := ["internal/bytealg.IndexByteString", "internal/bytealg.IndexByte"], apart := false }
def WireNobodySaid : Prop := wireNobodyRow.holds Try.pinned (OpenSpec.ofChange wireNobodySpec)

/-- ITS FALSE NEIGHBOUR: 'it returns false'. Refute it at one input. -/
def wireNobodyWrong : ChangeSpec := { name := "wireNobody", fn := fun _ => fun
  | [d1, d2] => { results := [.lit (.bool false)], args := [d1, d2] }
  | _ => none }
def WireNobodyWrongFalsely : Prop := wireNobodyRow.holds Try.pinned (OpenSpec.ofChange wireNobodyWrong)

/-- 'tumblerlaw23.AlarmNobody': WHATEVER THE INPUT: true; the input reads as it did. -/
def alarmNobodySpec : ChangeSpec := { name := "alarmNobody", fn := fun _ => fun
  | [d] => { results := [.lit (.bool true)], args := [d] }
  | _ => none }
def alarmNobodyRow : OpenClaim := { program := "ytcbkaccbbebobaa", sum := "bea09b6db557296d7dd9f1df155bd52e21e65c6699677bd2f7d98bf8061c3958", func := "tumbler/tumblerlaw23.AlarmNobody", spec := "alarmNobody", inPlace := ["math/bits.Add64"], unfollowed := true, recurses := true, apart := false }
def AlarmNobodySaid : Prop := alarmNobodyRow.holds Try.pinned (OpenSpec.ofChange alarmNobodySpec)

/-- ITS FALSE NEIGHBOUR: 'it returns false'. Refute it at one input. -/
def alarmNobodyWrong : ChangeSpec := { name := "alarmNobody", fn := fun _ => fun
  | [d] => { results := [.lit (.bool false)], args := [d] }
  | _ => none }
def AlarmNobodyWrongFalsely : Prop := alarmNobodyRow.holds Try.pinned (OpenSpec.ofChange alarmNobodyWrong)

/-- 'tumblerlaw07.DueNobody': WHATEVER THE INPUT: true; the input reads as it did. -/
def dueNobodySpec : ChangeSpec := { name := "dueNobody", fn := fun _ => fun
  | [d1, d2] => { results := [.lit (.bool true)], args := [d1, d2] }
  | _ => none }
def dueNobodyRow : OpenClaim := { program := "ytcbkaccbbebobaa", sum := "bea09b6db557296d7dd9f1df155bd52e21e65c6699677bd2f7d98bf8061c3958", func := "tumbler/tumblerlaw07.DueNobody", spec := "dueNobody", unfollowed := true, recurses := true, apart := false }
def DueNobodySaid : Prop := dueNobodyRow.holds Try.pinned (OpenSpec.ofChange dueNobodySpec)

/-- ITS FALSE NEIGHBOUR: 'it returns false'. Refute it at one input. -/
def dueNobodyWrong : ChangeSpec := { name := "dueNobody", fn := fun _ => fun
  | [d1, d2] => { results := [.lit (.bool false)], args := [d1, d2] }
  | _ => none }
def DueNobodyWrongFalsely : Prop := dueNobodyRow.holds Try.pinned (OpenSpec.ofChange dueNobodyWrong)

/-- 'tumblerlaw05.WireSplits': WHATEVER THE INPUT: true; the input reads as it did. -/
def wireSplitsSpec : ChangeSpec := { name := "wireSplits", fn := fun _ => fun
  | [d] => { results := [.lit (.bool true)], args := [d] }
  | _ => none }
def wireSplitsRow : OpenClaim := { program := "ytcbkaccbbebobaa", sum := "bea09b6db557296d7dd9f1df155bd52e21e65c6699677bd2f7d98bf8061c3958", func := "tumbler/tumblerlaw05.WireSplits", spec := "wireSplits", inPlace := ["internal/bytealg.IndexByte"], apart := false }
def WireSplitsSaid : Prop := wireSplitsRow.holds Try.pinned (OpenSpec.ofChange wireSplitsSpec)

/-- ITS FALSE NEIGHBOUR: 'it returns false'. Refute it at one input. -/
def wireSplitsWrong : ChangeSpec := { name := "wireSplits", fn := fun _ => fun
  | [d] => { results := [.lit (.bool false)], args := [d] }
  | _ => none }
def WireSplitsWrongFalsely : Prop := wireSplitsRow.holds Try.pinned (OpenSpec.ofChange wireSplitsWrong)

/- THE SECOND FORM. 'bulk': how many values and letters a reading holds, each counted each time it is reached (what is shared counts as often as it is met; a slice's spare places count too). A statement '..UptoSaid' is the law's where the arguments, and the package variables that the reading takes, are together of bulk at most 1048576: NARROWER than '..Said'. Prove '..Said' where nothing that the law and all that it calls make is longer than what came in: it says more and counts as full. Else prove '..UptoSaid'. A law counts once. -/
mutual
def uptoBulk {H : Type} : DataW H → Nat
  | .lit (.string bytes) => bytes.length + 1
  | .lit _ => 1
  | .nil => 1
  | .ptr d => uptoBulk d + 1
  | .slice elems spare => uptoBulkAll elems + uptoBulkAll spare + 1
  | .agg parts => uptoBulkAll parts + 1
  | .iface _ d => uptoBulk d + 1
  | .map entries => uptoBulkEntries entries + 1
  | .held _ => 1
def uptoBulkAll {H : Type} : List (DataW H) → Nat
  | [] => 0
  | d :: r => uptoBulk d + uptoBulkAll r
def uptoBulkEntries {H : Type} : List (Lit × DataW H) → Nat
  | [] => 0
  | x :: r => uptoBulkEntry x + uptoBulkEntries r
def uptoBulkEntry {H : Type} : Lit × DataW H → Nat
  | (.string bytes, d) => bytes.length + uptoBulk d + 1
  | (_, d) => uptoBulk d + 1
 end
def uptoSmall : (H : Type) → List (DataW H) → Bool := fun _ ds => decide (uptoBulkAll ds ≤ 1048576)
def OpenSpec.upto (s : _root_.Go.ChangeSpec) : _root_.Go.OpenSpec := { _root_.Go.OpenSpec.ofChange s with cond := some uptoSmall }

/-- 'tumblerlaw06.WindowNils', WHERE WHAT IT READS IS OF BULK AT MOST 1048576: true; the input reads as it did. -/
def windowNilsUptoRow : OpenClaim := { program := "ytcbkaccbbebobaa", sum := "bea09b6db557296d7dd9f1df155bd52e21e65c6699677bd2f7d98bf8061c3958", func := "tumbler/tumblerlaw06.WindowNils", spec := "windowNils", recurses := true, apart := false, narrowed := true }
def WindowNilsUptoSaid : Prop := windowNilsUptoRow.holds Try.pinned (OpenSpec.upto windowNilsSpec)

/-- 'tumblerlaw05.WireNobody', WHERE WHAT IT READS IS OF BULK AT MOST 1048576: true; the input reads as it did. -/
def wireNobodyUptoRow : OpenClaim := { program := "ytcbkaccbbebobaa", sum := "bea09b6db557296d7dd9f1df155bd52e21e65c6699677bd2f7d98bf8061c3958", func := "tumbler/tumblerlaw05.WireNobody", spec := "wireNobody", inPlace := ["internal/bytealg.IndexByteString", "internal/bytealg.IndexByte"], apart := false, narrowed := true }
def WireNobodyUptoSaid : Prop := wireNobodyUptoRow.holds Try.pinned (OpenSpec.upto wireNobodySpec)

/-- 'tumblerlaw23.AlarmNobody', WHERE WHAT IT READS IS OF BULK AT MOST 1048576: true; the input reads as it did. -/
def alarmNobodyUptoRow : OpenClaim := { program := "ytcbkaccbbebobaa", sum := "bea09b6db557296d7dd9f1df155bd52e21e65c6699677bd2f7d98bf8061c3958", func := "tumbler/tumblerlaw23.AlarmNobody", spec := "alarmNobody", inPlace := ["math/bits.Add64"], unfollowed := true, recurses := true, apart := false, narrowed := true }
def AlarmNobodyUptoSaid : Prop := alarmNobodyUptoRow.holds Try.pinned (OpenSpec.upto alarmNobodySpec)

/-- 'tumblerlaw07.DueNobody', WHERE WHAT IT READS IS OF BULK AT MOST 1048576: true; the input reads as it did. -/
def dueNobodyUptoRow : OpenClaim := { program := "ytcbkaccbbebobaa", sum := "bea09b6db557296d7dd9f1df155bd52e21e65c6699677bd2f7d98bf8061c3958", func := "tumbler/tumblerlaw07.DueNobody", spec := "dueNobody", unfollowed := true, recurses := true, apart := false, narrowed := true }
def DueNobodyUptoSaid : Prop := dueNobodyUptoRow.holds Try.pinned (OpenSpec.upto dueNobodySpec)

/-- 'tumblerlaw05.WireSplits', WHERE WHAT IT READS IS OF BULK AT MOST 1048576: true; the input reads as it did. -/
def wireSplitsUptoRow : OpenClaim := { program := "ytcbkaccbbebobaa", sum := "bea09b6db557296d7dd9f1df155bd52e21e65c6699677bd2f7d98bf8061c3958", func := "tumbler/tumblerlaw05.WireSplits", spec := "wireSplits", inPlace := ["internal/bytealg.IndexByte"], apart := false, narrowed := true }
def WireSplitsUptoSaid : Prop := wireSplitsUptoRow.holds Try.pinned (OpenSpec.upto wireSplitsSpec)

end Rows
end Go.Proofs.Ytcbkaccbbebobaa
