/-
  NARROWER THAN 'FOR EVERY INPUT', by the rows' own cells (each row's printed sentence says how): MicroParses: laid · MicroPrints: laid · MicroReads: laid · MicroShows: laid · MicroBack: laid · MicroWideBack: laid · MicroShort: laid · MicroSame: laid · MicroRounds: laid · MicroNear: laid.
  DERIVED. THE GIVEN ROWS OF THIS SEAT. 10 by the template 'for every input the law returns true; each argument reads behind the call as it read before'; 0 by the template 'total and deterministic' (their statements: YtdjehbagnkfkpaaDoorTotals.lean).
  GIVEN WITH THE SEED: the statements are not yours to turn. If you find one false, say at which input.
  Laid BY PROGRAM, IN A SANDBOX (cutbox-rows.mjs): the forced cells as the released guide's own fill.sh prints them over the translation b1ef15a78377e59e… (all of the seat's roots in one cut). By AI agents, Wed Nov 11 2026. No macro, syntax, notation, axiom, sorry.
-/
import Derived.Test.YtdjehbagnkfkpaaDoorChecked
import GoSem.PinnedTables
import GoSem.Claim
import GoSem.ClaimJoined
import GoSem.ClaimMapViews
import Derived.JoinedTies
import Derived.KernelRfl
namespace Go.Proofs.YtdjehbagnkfkpaaDoor
/- THE CELL 'sum', in the pinned program and in every row, IS THE sha256 OF THE DUMP (.gsa) THAT YtdjehbagnkfkpaaDoorProg.lean LOADS. Nothing in Lean hashes anything: it is a label: what it is worth is what the hold of that sum in a sandbox is worth. -/
noncomputable def Tryd.pinned : Pinned := { name := "ytdjehbagnkfkpaadoor", sum := "b1ef15a78377e59e8ff59e56964d085cda94b4bd249307648eedae0d26b1c3a1", checked := Tryd.checked }
namespace Rows
def none {H : Type} : Left H := { results := [], args := [] }

/- WHAT THE LISTED PACKAGE-LEVEL VARIABLES READ AS WHEN THE CALL BEGINS. Each datum BY PROGRAM (the guide's laid-datum.mjs) off the statement by which the dump's own 'gosem.cut.vars' lays the variable. In a bare row this is a premise. The card (YtdjehbagnkfkpaaDoorCards.lean) ties it to the program's text. -/
def laid_unicode_utf8_acceptRanges {H : Type} : DataW H := .agg [.agg [.lit (.int .u8 128), .lit (.int .u8 191)], .agg [.lit (.int .u8 160), .lit (.int .u8 191)], .agg [.lit (.int .u8 128), .lit (.int .u8 159)], .agg [.lit (.int .u8 144), .lit (.int .u8 191)], .agg [.lit (.int .u8 128), .lit (.int .u8 143)], .agg [.lit (.int .u8 0), .lit (.int .u8 0)], .agg [.lit (.int .u8 0), .lit (.int .u8 0)], .agg [.lit (.int .u8 0), .lit (.int .u8 0)], .agg [.lit (.int .u8 0), .lit (.int .u8 0)], .agg [.lit (.int .u8 0), .lit (.int .u8 0)], .agg [.lit (.int .u8 0), .lit (.int .u8 0)], .agg [.lit (.int .u8 0), .lit (.int .u8 0)], .agg [.lit (.int .u8 0), .lit (.int .u8 0)], .agg [.lit (.int .u8 0), .lit (.int .u8 0)], .agg [.lit (.int .u8 0), .lit (.int .u8 0)], .agg [.lit (.int .u8 0), .lit (.int .u8 0)]]
/-- One of Go's own tables, pinned by name: the form's constant. -/
def laid_unicode_utf8_first : DataW Unit := Go.Pinned.utf8First
def laid_tumbler_micro_powers {H : Type} : DataW H := .agg [.lit (.int .i64 1), .lit (.int .i64 10), .lit (.int .i64 100), .lit (.int .i64 1000), .lit (.int .i64 10000), .lit (.int .i64 100000), .lit (.int .i64 1000000)]

/-- 'tumblerlaw02.MicroParses': WHATEVER THE INPUT: true; the input reads as it did. -/
def microParsesSpec : ChangeSpec := { name := "microParses", fn := fun _ => fun
  | [d] => { results := [.lit (.bool true)], args := [d] }
  | _ => none }
def microParsesRow : OpenClaim := { program := "ytdjehbagnkfkpaadoor", sum := "b1ef15a78377e59e8ff59e56964d085cda94b4bd249307648eedae0d26b1c3a1", func := "tumbler/tumblerlaw02.MicroParses", spec := "microParses", inPlace := ["internal/bytealg.IndexByteString", "internal/bytealg.IndexString", "internal/abi.NoEscape", "internal/bytealg.MakeNoZero", "math/bits.Add64", "math/bits.Sub64"], named := ["internal/bytealg.MaxLen", "unicode/utf8.first", "unicode/utf8.acceptRanges", "math/bits.divideError", "math/bits.overflowError"], apart := false, laid := [("unicode/utf8.acceptRanges", laid_unicode_utf8_acceptRanges), ("unicode/utf8.first", laid_unicode_utf8_first)] }
def MicroParsesSaid : Prop := microParsesRow.holds Tryd.pinned (OpenSpec.ofChange microParsesSpec)

/-- ITS FALSE NEIGHBOUR: 'it returns false'. Refute it at one input. -/
def microParsesWrong : ChangeSpec := { name := "microParses", fn := fun _ => fun
  | [d] => { results := [.lit (.bool false)], args := [d] }
  | _ => none }
def MicroParsesWrongFalsely : Prop := microParsesRow.holds Tryd.pinned (OpenSpec.ofChange microParsesWrong)

/-- 'tumblerlaw02.MicroPrints': WHATEVER THE INPUT: true; the input reads as it did. -/
def microPrintsSpec : ChangeSpec := { name := "microPrints", fn := fun _ => fun
  | [d] => { results := [.lit (.bool true)], args := [d] }
  | _ => none }
def microPrintsRow : OpenClaim := { program := "ytdjehbagnkfkpaadoor", sum := "b1ef15a78377e59e8ff59e56964d085cda94b4bd249307648eedae0d26b1c3a1", func := "tumbler/tumblerlaw02.MicroPrints", spec := "microPrints", inPlace := ["math/bits.Sub64", "internal/abi.NoEscape", "internal/bytealg.MakeNoZero", "internal/bytealg.IndexByteString", "internal/bytealg.IndexString"], named := ["math/bits.divideError", "math/bits.overflowError", "unicode/utf8.first", "unicode/utf8.acceptRanges", "internal/bytealg.MaxLen"], apart := false, laid := [("unicode/utf8.acceptRanges", laid_unicode_utf8_acceptRanges), ("unicode/utf8.first", laid_unicode_utf8_first)] }
def MicroPrintsSaid : Prop := microPrintsRow.holds Tryd.pinned (OpenSpec.ofChange microPrintsSpec)

/-- ITS FALSE NEIGHBOUR: 'it returns false'. Refute it at one input. -/
def microPrintsWrong : ChangeSpec := { name := "microPrints", fn := fun _ => fun
  | [d] => { results := [.lit (.bool false)], args := [d] }
  | _ => none }
def MicroPrintsWrongFalsely : Prop := microPrintsRow.holds Tryd.pinned (OpenSpec.ofChange microPrintsWrong)

/-- 'tumblerlaw02.MicroReads': WHATEVER THE INPUT: true; the input reads as it did. -/
def microReadsSpec : ChangeSpec := { name := "microReads", fn := fun _ => fun
  | [d] => { results := [.lit (.bool true)], args := [d] }
  | _ => none }
def microReadsRow : OpenClaim := { program := "ytdjehbagnkfkpaadoor", sum := "b1ef15a78377e59e8ff59e56964d085cda94b4bd249307648eedae0d26b1c3a1", func := "tumbler/tumblerlaw02.MicroReads", spec := "microReads", inPlace := ["internal/bytealg.IndexByteString", "internal/bytealg.IndexString", "internal/abi.NoEscape", "internal/bytealg.MakeNoZero", "math/bits.Add64", "math/bits.Sub64"], named := ["internal/bytealg.MaxLen", "unicode/utf8.first", "unicode/utf8.acceptRanges", "math/bits.divideError", "math/bits.overflowError"], apart := false, laid := [("unicode/utf8.acceptRanges", laid_unicode_utf8_acceptRanges), ("unicode/utf8.first", laid_unicode_utf8_first)] }
def MicroReadsSaid : Prop := microReadsRow.holds Tryd.pinned (OpenSpec.ofChange microReadsSpec)

/-- ITS FALSE NEIGHBOUR: 'it returns false'. Refute it at one input. -/
def microReadsWrong : ChangeSpec := { name := "microReads", fn := fun _ => fun
  | [d] => { results := [.lit (.bool false)], args := [d] }
  | _ => none }
def MicroReadsWrongFalsely : Prop := microReadsRow.holds Tryd.pinned (OpenSpec.ofChange microReadsWrong)

/-- 'tumblerlaw02.MicroShows': WHATEVER THE INPUT: true; the input reads as it did. -/
def microShowsSpec : ChangeSpec := { name := "microShows", fn := fun _ => fun
  | [d] => { results := [.lit (.bool true)], args := [d] }
  | _ => none }
def microShowsRow : OpenClaim := { program := "ytdjehbagnkfkpaadoor", sum := "b1ef15a78377e59e8ff59e56964d085cda94b4bd249307648eedae0d26b1c3a1", func := "tumbler/tumblerlaw02.MicroShows", spec := "microShows", inPlace := ["math/bits.Sub64", "internal/abi.NoEscape", "internal/bytealg.MakeNoZero", "internal/bytealg.IndexByteString", "internal/bytealg.IndexString"], named := ["math/bits.divideError", "math/bits.overflowError", "unicode/utf8.first", "unicode/utf8.acceptRanges", "internal/bytealg.MaxLen"], apart := false, laid := [("unicode/utf8.acceptRanges", laid_unicode_utf8_acceptRanges), ("unicode/utf8.first", laid_unicode_utf8_first)] }
def MicroShowsSaid : Prop := microShowsRow.holds Tryd.pinned (OpenSpec.ofChange microShowsSpec)

/-- ITS FALSE NEIGHBOUR: 'it returns false'. Refute it at one input. -/
def microShowsWrong : ChangeSpec := { name := "microShows", fn := fun _ => fun
  | [d] => { results := [.lit (.bool false)], args := [d] }
  | _ => none }
def MicroShowsWrongFalsely : Prop := microShowsRow.holds Tryd.pinned (OpenSpec.ofChange microShowsWrong)

/-- 'tumblerlaw02.MicroBack': WHATEVER THE INPUT: true; the input reads as it did. -/
def microBackSpec : ChangeSpec := { name := "microBack", fn := fun _ => fun
  | [d] => { results := [.lit (.bool true)], args := [d] }
  | _ => none }
def microBackRow : OpenClaim := { program := "ytdjehbagnkfkpaadoor", sum := "b1ef15a78377e59e8ff59e56964d085cda94b4bd249307648eedae0d26b1c3a1", func := "tumbler/tumblerlaw02.MicroBack", spec := "microBack", inPlace := ["math/bits.Sub64", "internal/abi.NoEscape", "internal/bytealg.MakeNoZero", "internal/bytealg.IndexByteString", "internal/bytealg.IndexString", "math/bits.Add64"], named := ["math/bits.divideError", "math/bits.overflowError", "unicode/utf8.first", "unicode/utf8.acceptRanges", "internal/bytealg.MaxLen"], apart := false, laid := [("unicode/utf8.acceptRanges", laid_unicode_utf8_acceptRanges), ("unicode/utf8.first", laid_unicode_utf8_first)] }
def MicroBackSaid : Prop := microBackRow.holds Tryd.pinned (OpenSpec.ofChange microBackSpec)

/-- ITS FALSE NEIGHBOUR: 'it returns false'. Refute it at one input. -/
def microBackWrong : ChangeSpec := { name := "microBack", fn := fun _ => fun
  | [d] => { results := [.lit (.bool false)], args := [d] }
  | _ => none }
def MicroBackWrongFalsely : Prop := microBackRow.holds Tryd.pinned (OpenSpec.ofChange microBackWrong)

/-- 'tumblerlaw02.MicroWideBack': WHATEVER THE INPUT: true; the input reads as it did. -/
def microWideBackSpec : ChangeSpec := { name := "microWideBack", fn := fun _ => fun
  | [d] => { results := [.lit (.bool true)], args := [d] }
  | _ => none }
def microWideBackRow : OpenClaim := { program := "ytdjehbagnkfkpaadoor", sum := "b1ef15a78377e59e8ff59e56964d085cda94b4bd249307648eedae0d26b1c3a1", func := "tumbler/tumblerlaw02.MicroWideBack", spec := "microWideBack", inPlace := ["math/bits.Sub64", "internal/abi.NoEscape", "internal/bytealg.MakeNoZero", "internal/bytealg.IndexByteString", "internal/bytealg.IndexString", "math/bits.Add64"], named := ["math/bits.divideError", "math/bits.overflowError", "unicode/utf8.first", "unicode/utf8.acceptRanges", "internal/bytealg.MaxLen"], apart := false, laid := [("unicode/utf8.acceptRanges", laid_unicode_utf8_acceptRanges), ("unicode/utf8.first", laid_unicode_utf8_first)] }
def MicroWideBackSaid : Prop := microWideBackRow.holds Tryd.pinned (OpenSpec.ofChange microWideBackSpec)

/-- ITS FALSE NEIGHBOUR: 'it returns false'. Refute it at one input. -/
def microWideBackWrong : ChangeSpec := { name := "microWideBack", fn := fun _ => fun
  | [d] => { results := [.lit (.bool false)], args := [d] }
  | _ => none }
def MicroWideBackWrongFalsely : Prop := microWideBackRow.holds Tryd.pinned (OpenSpec.ofChange microWideBackWrong)

/-- 'tumblerlaw02.MicroShort': WHATEVER THE INPUT: true; the input reads as it did. -/
def microShortSpec : ChangeSpec := { name := "microShort", fn := fun _ => fun
  | [d] => { results := [.lit (.bool true)], args := [d] }
  | _ => none }
def microShortRow : OpenClaim := { program := "ytdjehbagnkfkpaadoor", sum := "b1ef15a78377e59e8ff59e56964d085cda94b4bd249307648eedae0d26b1c3a1", func := "tumbler/tumblerlaw02.MicroShort", spec := "microShort", inPlace := ["internal/bytealg.IndexByteString", "internal/bytealg.IndexString", "internal/abi.NoEscape", "internal/bytealg.MakeNoZero", "math/bits.Add64", "math/bits.Sub64"], named := ["internal/bytealg.MaxLen", "unicode/utf8.first", "unicode/utf8.acceptRanges", "math/bits.divideError", "math/bits.overflowError"], apart := false, laid := [("unicode/utf8.acceptRanges", laid_unicode_utf8_acceptRanges), ("unicode/utf8.first", laid_unicode_utf8_first)] }
def MicroShortSaid : Prop := microShortRow.holds Tryd.pinned (OpenSpec.ofChange microShortSpec)

/-- ITS FALSE NEIGHBOUR: 'it returns false'. Refute it at one input. -/
def microShortWrong : ChangeSpec := { name := "microShort", fn := fun _ => fun
  | [d] => { results := [.lit (.bool false)], args := [d] }
  | _ => none }
def MicroShortWrongFalsely : Prop := microShortRow.holds Tryd.pinned (OpenSpec.ofChange microShortWrong)

/-- 'tumblerlaw02.MicroSame': WHATEVER THE INPUT: true; the input reads as it did. -/
def microSameSpec : ChangeSpec := { name := "microSame", fn := fun _ => fun
  | [d] => { results := [.lit (.bool true)], args := [d] }
  | _ => none }
def microSameRow : OpenClaim := { program := "ytdjehbagnkfkpaadoor", sum := "b1ef15a78377e59e8ff59e56964d085cda94b4bd249307648eedae0d26b1c3a1", func := "tumbler/tumblerlaw02.MicroSame", spec := "microSame", inPlace := ["internal/bytealg.IndexByteString", "internal/bytealg.IndexString", "internal/abi.NoEscape", "internal/bytealg.MakeNoZero", "math/bits.Add64", "math/bits.Sub64"], named := ["internal/bytealg.MaxLen", "unicode/utf8.first", "unicode/utf8.acceptRanges", "math/bits.divideError", "math/bits.overflowError"], apart := false, laid := [("unicode/utf8.acceptRanges", laid_unicode_utf8_acceptRanges), ("unicode/utf8.first", laid_unicode_utf8_first)] }
def MicroSameSaid : Prop := microSameRow.holds Tryd.pinned (OpenSpec.ofChange microSameSpec)

/-- ITS FALSE NEIGHBOUR: 'it returns false'. Refute it at one input. -/
def microSameWrong : ChangeSpec := { name := "microSame", fn := fun _ => fun
  | [d] => { results := [.lit (.bool false)], args := [d] }
  | _ => none }
def MicroSameWrongFalsely : Prop := microSameRow.holds Tryd.pinned (OpenSpec.ofChange microSameWrong)

/-- 'tumblerlaw02.MicroRounds': WHATEVER THE INPUT: true; the input reads as it did. -/
def microRoundsSpec : ChangeSpec := { name := "microRounds", fn := fun _ => fun
  | [d1, d2] => { results := [.lit (.bool true)], args := [d1, d2] }
  | _ => none }
def microRoundsRow : OpenClaim := { program := "ytdjehbagnkfkpaadoor", sum := "b1ef15a78377e59e8ff59e56964d085cda94b4bd249307648eedae0d26b1c3a1", func := "tumbler/tumblerlaw02.MicroRounds", spec := "microRounds", inPlace := ["math/bits.Add64"], named := ["tumbler/micro.powers"], apart := false, laid := [("tumbler/micro.powers", laid_tumbler_micro_powers)] }
def MicroRoundsSaid : Prop := microRoundsRow.holds Tryd.pinned (OpenSpec.ofChange microRoundsSpec)

/-- ITS FALSE NEIGHBOUR: 'it returns false'. Refute it at one input. -/
def microRoundsWrong : ChangeSpec := { name := "microRounds", fn := fun _ => fun
  | [d1, d2] => { results := [.lit (.bool false)], args := [d1, d2] }
  | _ => none }
def MicroRoundsWrongFalsely : Prop := microRoundsRow.holds Tryd.pinned (OpenSpec.ofChange microRoundsWrong)

/-- 'tumblerlaw02.MicroNear': WHATEVER THE INPUT: true; the input reads as it did. -/
def microNearSpec : ChangeSpec := { name := "microNear", fn := fun _ => fun
  | [d1, d2] => { results := [.lit (.bool true)], args := [d1, d2] }
  | _ => none }
def microNearRow : OpenClaim := { program := "ytdjehbagnkfkpaadoor", sum := "b1ef15a78377e59e8ff59e56964d085cda94b4bd249307648eedae0d26b1c3a1", func := "tumbler/tumblerlaw02.MicroNear", spec := "microNear", inPlace := ["math/bits.Add64"], named := ["tumbler/micro.powers"], apart := false, laid := [("tumbler/micro.powers", laid_tumbler_micro_powers)] }
def MicroNearSaid : Prop := microNearRow.holds Tryd.pinned (OpenSpec.ofChange microNearSpec)

/-- ITS FALSE NEIGHBOUR: 'it returns false'. Refute it at one input. -/
def microNearWrong : ChangeSpec := { name := "microNear", fn := fun _ => fun
  | [d1, d2] => { results := [.lit (.bool false)], args := [d1, d2] }
  | _ => none }
def MicroNearWrongFalsely : Prop := microNearRow.holds Tryd.pinned (OpenSpec.ofChange microNearWrong)

/- THE SECOND FORM. 'bulk': how many values and letters a reading holds, each counted each time it is reached (what is shared counts as often as it is met; a slice's spare places count too). A statement '..UptoSaid' is the law's where the arguments, and the package variables that the reading takes, are together of bulk at most 1048576: NARROWER than '..Said'. Prove '..Said' where nothing that the law and all that it calls make is longer than what came in: it says more and counts as full. Else prove '..UptoSaid'. A law counts once. -/
mutual
def uptoBulk {H : Type} : DataW H → Nat
  | .lit (.string bytes) => bytes.length + 1
  | .lit _ => 1
  | .nil => 1
  | .ptr d => uptoBulk d + 1
  | .slice elems spare => uptoBulkAll elems + uptoBulkAll spare + 1
  | .agg parts => uptoBulkAll parts + 1
  | .iface _ d => uptoBulk d + 1
  | .map entries => uptoBulkEntries entries + 1
  | .held _ => 1
def uptoBulkAll {H : Type} : List (DataW H) → Nat
  | [] => 0
  | d :: r => uptoBulk d + uptoBulkAll r
def uptoBulkEntries {H : Type} : List (Lit × DataW H) → Nat
  | [] => 0
  | x :: r => uptoBulkEntry x + uptoBulkEntries r
def uptoBulkEntry {H : Type} : Lit × DataW H → Nat
  | (.string bytes, d) => bytes.length + uptoBulk d + 1
  | (_, d) => uptoBulk d + 1
 end
def uptoSmall : (H : Type) → List (DataW H) → Bool := fun _ ds => decide (uptoBulkAll ds ≤ 1048576)
def OpenSpec.upto (s : _root_.Go.ChangeSpec) : _root_.Go.OpenSpec := { _root_.Go.OpenSpec.ofChange s with cond := some uptoSmall }

/-- 'tumblerlaw02.MicroParses', WHERE WHAT IT READS IS OF BULK AT MOST 1048576: true; the input reads as it did. -/
def microParsesUptoRow : OpenClaim := { program := "ytdjehbagnkfkpaadoor", sum := "b1ef15a78377e59e8ff59e56964d085cda94b4bd249307648eedae0d26b1c3a1", func := "tumbler/tumblerlaw02.MicroParses", spec := "microParses", inPlace := ["internal/bytealg.IndexByteString", "internal/bytealg.IndexString", "internal/abi.NoEscape", "internal/bytealg.MakeNoZero", "math/bits.Add64", "math/bits.Sub64"], named := ["internal/bytealg.MaxLen", "unicode/utf8.first", "unicode/utf8.acceptRanges", "math/bits.divideError", "math/bits.overflowError"], apart := false, laid := [("unicode/utf8.acceptRanges", laid_unicode_utf8_acceptRanges), ("unicode/utf8.first", laid_unicode_utf8_first)], narrowed := true }
def MicroParsesUptoSaid : Prop := microParsesUptoRow.holds Tryd.pinned (OpenSpec.upto microParsesSpec)

/-- 'tumblerlaw02.MicroPrints', WHERE WHAT IT READS IS OF BULK AT MOST 1048576: true; the input reads as it did. -/
def microPrintsUptoRow : OpenClaim := { program := "ytdjehbagnkfkpaadoor", sum := "b1ef15a78377e59e8ff59e56964d085cda94b4bd249307648eedae0d26b1c3a1", func := "tumbler/tumblerlaw02.MicroPrints", spec := "microPrints", inPlace := ["math/bits.Sub64", "internal/abi.NoEscape", "internal/bytealg.MakeNoZero", "internal/bytealg.IndexByteString", "internal/bytealg.IndexString"], named := ["math/bits.divideError", "math/bits.overflowError", "unicode/utf8.first", "unicode/utf8.acceptRanges", "internal/bytealg.MaxLen"], apart := false, laid := [("unicode/utf8.acceptRanges", laid_unicode_utf8_acceptRanges), ("unicode/utf8.first", laid_unicode_utf8_first)], narrowed := true }
def MicroPrintsUptoSaid : Prop := microPrintsUptoRow.holds Tryd.pinned (OpenSpec.upto microPrintsSpec)

/-- 'tumblerlaw02.MicroReads', WHERE WHAT IT READS IS OF BULK AT MOST 1048576: true; the input reads as it did. -/
def microReadsUptoRow : OpenClaim := { program := "ytdjehbagnkfkpaadoor", sum := "b1ef15a78377e59e8ff59e56964d085cda94b4bd249307648eedae0d26b1c3a1", func := "tumbler/tumblerlaw02.MicroReads", spec := "microReads", inPlace := ["internal/bytealg.IndexByteString", "internal/bytealg.IndexString", "internal/abi.NoEscape", "internal/bytealg.MakeNoZero", "math/bits.Add64", "math/bits.Sub64"], named := ["internal/bytealg.MaxLen", "unicode/utf8.first", "unicode/utf8.acceptRanges", "math/bits.divideError", "math/bits.overflowError"], apart := false, laid := [("unicode/utf8.acceptRanges", laid_unicode_utf8_acceptRanges), ("unicode/utf8.first", laid_unicode_utf8_first)], narrowed := true }
def MicroReadsUptoSaid : Prop := microReadsUptoRow.holds Tryd.pinned (OpenSpec.upto microReadsSpec)

/-- 'tumblerlaw02.MicroShows', WHERE WHAT IT READS IS OF BULK AT MOST 1048576: true; the input reads as it did. -/
def microShowsUptoRow : OpenClaim := { program := "ytdjehbagnkfkpaadoor", sum := "b1ef15a78377e59e8ff59e56964d085cda94b4bd249307648eedae0d26b1c3a1", func := "tumbler/tumblerlaw02.MicroShows", spec := "microShows", inPlace := ["math/bits.Sub64", "internal/abi.NoEscape", "internal/bytealg.MakeNoZero", "internal/bytealg.IndexByteString", "internal/bytealg.IndexString"], named := ["math/bits.divideError", "math/bits.overflowError", "unicode/utf8.first", "unicode/utf8.acceptRanges", "internal/bytealg.MaxLen"], apart := false, laid := [("unicode/utf8.acceptRanges", laid_unicode_utf8_acceptRanges), ("unicode/utf8.first", laid_unicode_utf8_first)], narrowed := true }
def MicroShowsUptoSaid : Prop := microShowsUptoRow.holds Tryd.pinned (OpenSpec.upto microShowsSpec)

/-- 'tumblerlaw02.MicroBack', WHERE WHAT IT READS IS OF BULK AT MOST 1048576: true; the input reads as it did. -/
def microBackUptoRow : OpenClaim := { program := "ytdjehbagnkfkpaadoor", sum := "b1ef15a78377e59e8ff59e56964d085cda94b4bd249307648eedae0d26b1c3a1", func := "tumbler/tumblerlaw02.MicroBack", spec := "microBack", inPlace := ["math/bits.Sub64", "internal/abi.NoEscape", "internal/bytealg.MakeNoZero", "internal/bytealg.IndexByteString", "internal/bytealg.IndexString", "math/bits.Add64"], named := ["math/bits.divideError", "math/bits.overflowError", "unicode/utf8.first", "unicode/utf8.acceptRanges", "internal/bytealg.MaxLen"], apart := false, laid := [("unicode/utf8.acceptRanges", laid_unicode_utf8_acceptRanges), ("unicode/utf8.first", laid_unicode_utf8_first)], narrowed := true }
def MicroBackUptoSaid : Prop := microBackUptoRow.holds Tryd.pinned (OpenSpec.upto microBackSpec)

/-- 'tumblerlaw02.MicroWideBack', WHERE WHAT IT READS IS OF BULK AT MOST 1048576: true; the input reads as it did. -/
def microWideBackUptoRow : OpenClaim := { program := "ytdjehbagnkfkpaadoor", sum := "b1ef15a78377e59e8ff59e56964d085cda94b4bd249307648eedae0d26b1c3a1", func := "tumbler/tumblerlaw02.MicroWideBack", spec := "microWideBack", inPlace := ["math/bits.Sub64", "internal/abi.NoEscape", "internal/bytealg.MakeNoZero", "internal/bytealg.IndexByteString", "internal/bytealg.IndexString", "math/bits.Add64"], named := ["math/bits.divideError", "math/bits.overflowError", "unicode/utf8.first", "unicode/utf8.acceptRanges", "internal/bytealg.MaxLen"], apart := false, laid := [("unicode/utf8.acceptRanges", laid_unicode_utf8_acceptRanges), ("unicode/utf8.first", laid_unicode_utf8_first)], narrowed := true }
def MicroWideBackUptoSaid : Prop := microWideBackUptoRow.holds Tryd.pinned (OpenSpec.upto microWideBackSpec)

/-- 'tumblerlaw02.MicroShort', WHERE WHAT IT READS IS OF BULK AT MOST 1048576: true; the input reads as it did. -/
def microShortUptoRow : OpenClaim := { program := "ytdjehbagnkfkpaadoor", sum := "b1ef15a78377e59e8ff59e56964d085cda94b4bd249307648eedae0d26b1c3a1", func := "tumbler/tumblerlaw02.MicroShort", spec := "microShort", inPlace := ["internal/bytealg.IndexByteString", "internal/bytealg.IndexString", "internal/abi.NoEscape", "internal/bytealg.MakeNoZero", "math/bits.Add64", "math/bits.Sub64"], named := ["internal/bytealg.MaxLen", "unicode/utf8.first", "unicode/utf8.acceptRanges", "math/bits.divideError", "math/bits.overflowError"], apart := false, laid := [("unicode/utf8.acceptRanges", laid_unicode_utf8_acceptRanges), ("unicode/utf8.first", laid_unicode_utf8_first)], narrowed := true }
def MicroShortUptoSaid : Prop := microShortUptoRow.holds Tryd.pinned (OpenSpec.upto microShortSpec)

/-- 'tumblerlaw02.MicroSame', WHERE WHAT IT READS IS OF BULK AT MOST 1048576: true; the input reads as it did. -/
def microSameUptoRow : OpenClaim := { program := "ytdjehbagnkfkpaadoor", sum := "b1ef15a78377e59e8ff59e56964d085cda94b4bd249307648eedae0d26b1c3a1", func := "tumbler/tumblerlaw02.MicroSame", spec := "microSame", inPlace := ["internal/bytealg.IndexByteString", "internal/bytealg.IndexString", "internal/abi.NoEscape", "internal/bytealg.MakeNoZero", "math/bits.Add64", "math/bits.Sub64"], named := ["internal/bytealg.MaxLen", "unicode/utf8.first", "unicode/utf8.acceptRanges", "math/bits.divideError", "math/bits.overflowError"], apart := false, laid := [("unicode/utf8.acceptRanges", laid_unicode_utf8_acceptRanges), ("unicode/utf8.first", laid_unicode_utf8_first)], narrowed := true }
def MicroSameUptoSaid : Prop := microSameUptoRow.holds Tryd.pinned (OpenSpec.upto microSameSpec)

/-- 'tumblerlaw02.MicroRounds', WHERE WHAT IT READS IS OF BULK AT MOST 1048576: true; the input reads as it did. -/
def microRoundsUptoRow : OpenClaim := { program := "ytdjehbagnkfkpaadoor", sum := "b1ef15a78377e59e8ff59e56964d085cda94b4bd249307648eedae0d26b1c3a1", func := "tumbler/tumblerlaw02.MicroRounds", spec := "microRounds", inPlace := ["math/bits.Add64"], named := ["tumbler/micro.powers"], apart := false, laid := [("tumbler/micro.powers", laid_tumbler_micro_powers)], narrowed := true }
def MicroRoundsUptoSaid : Prop := microRoundsUptoRow.holds Tryd.pinned (OpenSpec.upto microRoundsSpec)

/-- 'tumblerlaw02.MicroNear', WHERE WHAT IT READS IS OF BULK AT MOST 1048576: true; the input reads as it did. -/
def microNearUptoRow : OpenClaim := { program := "ytdjehbagnkfkpaadoor", sum := "b1ef15a78377e59e8ff59e56964d085cda94b4bd249307648eedae0d26b1c3a1", func := "tumbler/tumblerlaw02.MicroNear", spec := "microNear", inPlace := ["math/bits.Add64"], named := ["tumbler/micro.powers"], apart := false, laid := [("tumbler/micro.powers", laid_tumbler_micro_powers)], narrowed := true }
def MicroNearUptoSaid : Prop := microNearUptoRow.holds Tryd.pinned (OpenSpec.upto microNearSpec)

end Rows
end Go.Proofs.YtdjehbagnkfkpaaDoor
