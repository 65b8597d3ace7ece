/-
  NARROWER THAN 'FOR EVERY INPUT', by the rows' own cells (each row's printed sentence says how): FnExactPairTimes: laid · FnExactPairWord: laid · FnExactPairBelow: laid · FnExactSwapIn: laid · FnExactSwapTimes: laid · FnExactSwapTurned: laid · FnExactSwapIdem: laid · FnExactSwapAct: laid · FnExactSwapBelow: laid · FnExactSwapMeet: laid.
  DERIVED. THE GIVEN ROWS OF THIS SEAT. 10 by the template 'for every input the law returns true; each argument reads behind the call as it read before'; 0 by the template 'total and deterministic' (their statements: YtdkhapfadcoclaaDoorTotals.lean).
  GIVEN WITH THE SEED: the statements are not yours to turn. If you find one false, say at which input.
  Laid BY PROGRAM, IN A SANDBOX (cutbox-rows.mjs): the forced cells as the released guide's own fill.sh prints them over the translation 202439be59ddace7… (all of the seat's roots in one cut). By AI agents, Wed Nov 11 2026. No macro, syntax, notation, axiom, sorry.
-/
import Derived.Test.YtdkhapfadcoclaaDoorChecked
import GoSem.PinnedTables
import GoSem.Claim
import GoSem.ClaimJoined
import GoSem.ClaimMapViews
import Derived.JoinedTies
import Derived.KernelRfl
namespace Go.Proofs.YtdkhapfadcoclaaDoor
/- THE CELL 'sum', in the pinned program and in every row, IS THE sha256 OF THE DUMP (.gsa) THAT YtdkhapfadcoclaaDoorProg.lean LOADS. Nothing in Lean hashes anything: it is a label: what it is worth is what the hold of that sum in a sandbox is worth. -/
noncomputable def Tryd.pinned : Pinned := { name := "ytdkhapfadcoclaadoor", sum := "202439be59ddace79b9037af39eb055fc4b24c016f9701123be6cde52aaed5e6", checked := Tryd.checked }
namespace Rows
def none {H : Type} : Left H := { results := [], args := [] }

/- WHAT THE LISTED PACKAGE-LEVEL VARIABLES READ AS WHEN THE CALL BEGINS. Each datum BY PROGRAM (the guide's laid-datum.mjs) off the statement by which the dump's own 'gosem.cut.vars' lays the variable. In a bare row this is a premise. The card (YtdkhapfadcoclaaDoorCards.lean) ties it to the program's text. -/
def laid_unicode_utf8_acceptRanges {H : Type} : DataW H := .agg [.agg [.lit (.int .u8 128), .lit (.int .u8 191)], .agg [.lit (.int .u8 160), .lit (.int .u8 191)], .agg [.lit (.int .u8 128), .lit (.int .u8 159)], .agg [.lit (.int .u8 144), .lit (.int .u8 191)], .agg [.lit (.int .u8 128), .lit (.int .u8 143)], .agg [.lit (.int .u8 0), .lit (.int .u8 0)], .agg [.lit (.int .u8 0), .lit (.int .u8 0)], .agg [.lit (.int .u8 0), .lit (.int .u8 0)], .agg [.lit (.int .u8 0), .lit (.int .u8 0)], .agg [.lit (.int .u8 0), .lit (.int .u8 0)], .agg [.lit (.int .u8 0), .lit (.int .u8 0)], .agg [.lit (.int .u8 0), .lit (.int .u8 0)], .agg [.lit (.int .u8 0), .lit (.int .u8 0)], .agg [.lit (.int .u8 0), .lit (.int .u8 0)], .agg [.lit (.int .u8 0), .lit (.int .u8 0)], .agg [.lit (.int .u8 0), .lit (.int .u8 0)]]
/-- One of Go's own tables, pinned by name: the form's constant. -/
def laid_unicode_utf8_first : DataW Unit := Go.Pinned.utf8First

/-- 'laws.FnExactPairTimes': WHATEVER THE INPUT: true; the input reads as it did. -/
def fnExactPairTimesSpec : ChangeSpec := { name := "fnExactPairTimes", fn := fun _ => fun
  | [d1, d2, d3, d4] => { results := [.lit (.bool true)], args := [d1, d2, d3, d4] }
  | _ => none }
def fnExactPairTimesRow : OpenClaim := { program := "ytdkhapfadcoclaadoor", sum := "202439be59ddace79b9037af39eb055fc4b24c016f9701123be6cde52aaed5e6", func := "loop.example/partialcharts/laws.FnExactPairTimes", spec := "fnExactPairTimes", inPlace := ["internal/bytealg.IndexByteString", "internal/bytealg.IndexString"], unfollowed := true, recurses := true, named := ["unicode/utf8.first", "unicode/utf8.acceptRanges", "internal/bytealg.MaxLen"], apart := false, laid := [("unicode/utf8.acceptRanges", laid_unicode_utf8_acceptRanges), ("unicode/utf8.first", laid_unicode_utf8_first)] }
def FnExactPairTimesSaid : Prop := fnExactPairTimesRow.holds Tryd.pinned (OpenSpec.ofChange fnExactPairTimesSpec)

/-- ITS FALSE NEIGHBOUR: 'it returns false'. Refute it at one input. -/
def fnExactPairTimesWrong : ChangeSpec := { name := "fnExactPairTimes", fn := fun _ => fun
  | [d1, d2, d3, d4] => { results := [.lit (.bool false)], args := [d1, d2, d3, d4] }
  | _ => none }
def FnExactPairTimesWrongFalsely : Prop := fnExactPairTimesRow.holds Tryd.pinned (OpenSpec.ofChange fnExactPairTimesWrong)

/-- 'laws.FnExactPairWord': WHATEVER THE INPUT: true; the input reads as it did. -/
def fnExactPairWordSpec : ChangeSpec := { name := "fnExactPairWord", fn := fun _ => fun
  | [d] => { results := [.lit (.bool true)], args := [d] }
  | _ => none }
def fnExactPairWordRow : OpenClaim := { program := "ytdkhapfadcoclaadoor", sum := "202439be59ddace79b9037af39eb055fc4b24c016f9701123be6cde52aaed5e6", func := "loop.example/partialcharts/laws.FnExactPairWord", spec := "fnExactPairWord", inPlace := ["internal/bytealg.IndexByteString", "internal/bytealg.IndexString"], unfollowed := true, recurses := true, named := ["unicode/utf8.first", "unicode/utf8.acceptRanges", "internal/bytealg.MaxLen"], apart := false, laid := [("unicode/utf8.acceptRanges", laid_unicode_utf8_acceptRanges), ("unicode/utf8.first", laid_unicode_utf8_first)] }
def FnExactPairWordSaid : Prop := fnExactPairWordRow.holds Tryd.pinned (OpenSpec.ofChange fnExactPairWordSpec)

/-- ITS FALSE NEIGHBOUR: 'it returns false'. Refute it at one input. -/
def fnExactPairWordWrong : ChangeSpec := { name := "fnExactPairWord", fn := fun _ => fun
  | [d] => { results := [.lit (.bool false)], args := [d] }
  | _ => none }
def FnExactPairWordWrongFalsely : Prop := fnExactPairWordRow.holds Tryd.pinned (OpenSpec.ofChange fnExactPairWordWrong)

/-- 'laws.FnExactPairBelow': WHATEVER THE INPUT: true; the input reads as it did. -/
def fnExactPairBelowSpec : ChangeSpec := { name := "fnExactPairBelow", fn := fun _ => fun
  | [d1, d2, d3, d4] => { results := [.lit (.bool true)], args := [d1, d2, d3, d4] }
  | _ => none }
def fnExactPairBelowRow : OpenClaim := { program := "ytdkhapfadcoclaadoor", sum := "202439be59ddace79b9037af39eb055fc4b24c016f9701123be6cde52aaed5e6", func := "loop.example/partialcharts/laws.FnExactPairBelow", spec := "fnExactPairBelow", inPlace := ["internal/bytealg.IndexByteString", "internal/bytealg.IndexString"], unfollowed := true, recurses := true, named := ["unicode/utf8.first", "unicode/utf8.acceptRanges", "internal/bytealg.MaxLen"], apart := false, laid := [("unicode/utf8.acceptRanges", laid_unicode_utf8_acceptRanges), ("unicode/utf8.first", laid_unicode_utf8_first)] }
def FnExactPairBelowSaid : Prop := fnExactPairBelowRow.holds Tryd.pinned (OpenSpec.ofChange fnExactPairBelowSpec)

/-- ITS FALSE NEIGHBOUR: 'it returns false'. Refute it at one input. -/
def fnExactPairBelowWrong : ChangeSpec := { name := "fnExactPairBelow", fn := fun _ => fun
  | [d1, d2, d3, d4] => { results := [.lit (.bool false)], args := [d1, d2, d3, d4] }
  | _ => none }
def FnExactPairBelowWrongFalsely : Prop := fnExactPairBelowRow.holds Tryd.pinned (OpenSpec.ofChange fnExactPairBelowWrong)

/-- 'laws.FnExactSwapIn': WHATEVER THE INPUT: true; the input reads as it did. -/
def fnExactSwapInSpec : ChangeSpec := { name := "fnExactSwapIn", fn := fun _ => fun
  | [d] => { results := [.lit (.bool true)], args := [d] }
  | _ => none }
def fnExactSwapInRow : OpenClaim := { program := "ytdkhapfadcoclaadoor", sum := "202439be59ddace79b9037af39eb055fc4b24c016f9701123be6cde52aaed5e6", func := "loop.example/partialcharts/laws.FnExactSwapIn", spec := "fnExactSwapIn", inPlace := ["internal/bytealg.IndexByteString", "internal/bytealg.IndexString"], named := ["unicode/utf8.first", "unicode/utf8.acceptRanges", "internal/bytealg.MaxLen"], apart := false, laid := [("unicode/utf8.acceptRanges", laid_unicode_utf8_acceptRanges), ("unicode/utf8.first", laid_unicode_utf8_first)] }
def FnExactSwapInSaid : Prop := fnExactSwapInRow.holds Tryd.pinned (OpenSpec.ofChange fnExactSwapInSpec)

/-- ITS FALSE NEIGHBOUR: 'it returns false'. Refute it at one input. -/
def fnExactSwapInWrong : ChangeSpec := { name := "fnExactSwapIn", fn := fun _ => fun
  | [d] => { results := [.lit (.bool false)], args := [d] }
  | _ => none }
def FnExactSwapInWrongFalsely : Prop := fnExactSwapInRow.holds Tryd.pinned (OpenSpec.ofChange fnExactSwapInWrong)

/-- 'laws.FnExactSwapTimes': WHATEVER THE INPUT: true; the input reads as it did. -/
def fnExactSwapTimesSpec : ChangeSpec := { name := "fnExactSwapTimes", fn := fun _ => fun
  | [d1, d2] => { results := [.lit (.bool true)], args := [d1, d2] }
  | _ => none }
def fnExactSwapTimesRow : OpenClaim := { program := "ytdkhapfadcoclaadoor", sum := "202439be59ddace79b9037af39eb055fc4b24c016f9701123be6cde52aaed5e6", func := "loop.example/partialcharts/laws.FnExactSwapTimes", spec := "fnExactSwapTimes", inPlace := ["internal/bytealg.IndexByteString", "internal/bytealg.IndexString"], unfollowed := true, recurses := true, named := ["unicode/utf8.first", "unicode/utf8.acceptRanges", "internal/bytealg.MaxLen"], apart := false, laid := [("unicode/utf8.acceptRanges", laid_unicode_utf8_acceptRanges), ("unicode/utf8.first", laid_unicode_utf8_first)] }
def FnExactSwapTimesSaid : Prop := fnExactSwapTimesRow.holds Tryd.pinned (OpenSpec.ofChange fnExactSwapTimesSpec)

/-- ITS FALSE NEIGHBOUR: 'it returns false'. Refute it at one input. -/
def fnExactSwapTimesWrong : ChangeSpec := { name := "fnExactSwapTimes", fn := fun _ => fun
  | [d1, d2] => { results := [.lit (.bool false)], args := [d1, d2] }
  | _ => none }
def FnExactSwapTimesWrongFalsely : Prop := fnExactSwapTimesRow.holds Tryd.pinned (OpenSpec.ofChange fnExactSwapTimesWrong)

/-- 'laws.FnExactSwapTurned': WHATEVER THE INPUT: true; the input reads as it did. -/
def fnExactSwapTurnedSpec : ChangeSpec := { name := "fnExactSwapTurned", fn := fun _ => fun
  | [d] => { results := [.lit (.bool true)], args := [d] }
  | _ => none }
def fnExactSwapTurnedRow : OpenClaim := { program := "ytdkhapfadcoclaadoor", sum := "202439be59ddace79b9037af39eb055fc4b24c016f9701123be6cde52aaed5e6", func := "loop.example/partialcharts/laws.FnExactSwapTurned", spec := "fnExactSwapTurned", inPlace := ["internal/bytealg.IndexByteString", "internal/bytealg.IndexString"], named := ["unicode/utf8.first", "unicode/utf8.acceptRanges", "internal/bytealg.MaxLen"], apart := false, laid := [("unicode/utf8.acceptRanges", laid_unicode_utf8_acceptRanges), ("unicode/utf8.first", laid_unicode_utf8_first)] }
def FnExactSwapTurnedSaid : Prop := fnExactSwapTurnedRow.holds Tryd.pinned (OpenSpec.ofChange fnExactSwapTurnedSpec)

/-- ITS FALSE NEIGHBOUR: 'it returns false'. Refute it at one input. -/
def fnExactSwapTurnedWrong : ChangeSpec := { name := "fnExactSwapTurned", fn := fun _ => fun
  | [d] => { results := [.lit (.bool false)], args := [d] }
  | _ => none }
def FnExactSwapTurnedWrongFalsely : Prop := fnExactSwapTurnedRow.holds Tryd.pinned (OpenSpec.ofChange fnExactSwapTurnedWrong)

/-- 'laws.FnExactSwapIdem': WHATEVER THE INPUT: true; the input reads as it did. -/
def fnExactSwapIdemSpec : ChangeSpec := { name := "fnExactSwapIdem", fn := fun _ => fun
  | [d] => { results := [.lit (.bool true)], args := [d] }
  | _ => none }
def fnExactSwapIdemRow : OpenClaim := { program := "ytdkhapfadcoclaadoor", sum := "202439be59ddace79b9037af39eb055fc4b24c016f9701123be6cde52aaed5e6", func := "loop.example/partialcharts/laws.FnExactSwapIdem", spec := "fnExactSwapIdem", inPlace := ["internal/bytealg.IndexByteString", "internal/bytealg.IndexString"], named := ["unicode/utf8.first", "unicode/utf8.acceptRanges", "internal/bytealg.MaxLen"], apart := false, laid := [("unicode/utf8.acceptRanges", laid_unicode_utf8_acceptRanges), ("unicode/utf8.first", laid_unicode_utf8_first)] }
def FnExactSwapIdemSaid : Prop := fnExactSwapIdemRow.holds Tryd.pinned (OpenSpec.ofChange fnExactSwapIdemSpec)

/-- ITS FALSE NEIGHBOUR: 'it returns false'. Refute it at one input. -/
def fnExactSwapIdemWrong : ChangeSpec := { name := "fnExactSwapIdem", fn := fun _ => fun
  | [d] => { results := [.lit (.bool false)], args := [d] }
  | _ => none }
def FnExactSwapIdemWrongFalsely : Prop := fnExactSwapIdemRow.holds Tryd.pinned (OpenSpec.ofChange fnExactSwapIdemWrong)

/-- 'laws.FnExactSwapAct': WHATEVER THE INPUT: true; the input reads as it did. -/
def fnExactSwapActSpec : ChangeSpec := { name := "fnExactSwapAct", fn := fun _ => fun
  | [d1, d2] => { results := [.lit (.bool true)], args := [d1, d2] }
  | _ => none }
def fnExactSwapActRow : OpenClaim := { program := "ytdkhapfadcoclaadoor", sum := "202439be59ddace79b9037af39eb055fc4b24c016f9701123be6cde52aaed5e6", func := "loop.example/partialcharts/laws.FnExactSwapAct", spec := "fnExactSwapAct", inPlace := ["internal/bytealg.IndexByteString", "internal/bytealg.IndexString"], named := ["unicode/utf8.first", "unicode/utf8.acceptRanges", "internal/bytealg.MaxLen"], apart := false, laid := [("unicode/utf8.acceptRanges", laid_unicode_utf8_acceptRanges), ("unicode/utf8.first", laid_unicode_utf8_first)] }
def FnExactSwapActSaid : Prop := fnExactSwapActRow.holds Tryd.pinned (OpenSpec.ofChange fnExactSwapActSpec)

/-- ITS FALSE NEIGHBOUR: 'it returns false'. Refute it at one input. -/
def fnExactSwapActWrong : ChangeSpec := { name := "fnExactSwapAct", fn := fun _ => fun
  | [d1, d2] => { results := [.lit (.bool false)], args := [d1, d2] }
  | _ => none }
def FnExactSwapActWrongFalsely : Prop := fnExactSwapActRow.holds Tryd.pinned (OpenSpec.ofChange fnExactSwapActWrong)

/-- 'laws.FnExactSwapBelow': WHATEVER THE INPUT: true; the input reads as it did. -/
def fnExactSwapBelowSpec : ChangeSpec := { name := "fnExactSwapBelow", fn := fun _ => fun
  | [d1, d2] => { results := [.lit (.bool true)], args := [d1, d2] }
  | _ => none }
def fnExactSwapBelowRow : OpenClaim := { program := "ytdkhapfadcoclaadoor", sum := "202439be59ddace79b9037af39eb055fc4b24c016f9701123be6cde52aaed5e6", func := "loop.example/partialcharts/laws.FnExactSwapBelow", spec := "fnExactSwapBelow", inPlace := ["internal/bytealg.IndexByteString", "internal/bytealg.IndexString"], unfollowed := true, recurses := true, named := ["unicode/utf8.first", "unicode/utf8.acceptRanges", "internal/bytealg.MaxLen"], apart := false, laid := [("unicode/utf8.acceptRanges", laid_unicode_utf8_acceptRanges), ("unicode/utf8.first", laid_unicode_utf8_first)] }
def FnExactSwapBelowSaid : Prop := fnExactSwapBelowRow.holds Tryd.pinned (OpenSpec.ofChange fnExactSwapBelowSpec)

/-- ITS FALSE NEIGHBOUR: 'it returns false'. Refute it at one input. -/
def fnExactSwapBelowWrong : ChangeSpec := { name := "fnExactSwapBelow", fn := fun _ => fun
  | [d1, d2] => { results := [.lit (.bool false)], args := [d1, d2] }
  | _ => none }
def FnExactSwapBelowWrongFalsely : Prop := fnExactSwapBelowRow.holds Tryd.pinned (OpenSpec.ofChange fnExactSwapBelowWrong)

/-- 'laws.FnExactSwapMeet': WHATEVER THE INPUT: true; the input reads as it did. -/
def fnExactSwapMeetSpec : ChangeSpec := { name := "fnExactSwapMeet", fn := fun _ => fun
  | [d1, d2] => { results := [.lit (.bool true)], args := [d1, d2] }
  | _ => none }
def fnExactSwapMeetRow : OpenClaim := { program := "ytdkhapfadcoclaadoor", sum := "202439be59ddace79b9037af39eb055fc4b24c016f9701123be6cde52aaed5e6", func := "loop.example/partialcharts/laws.FnExactSwapMeet", spec := "fnExactSwapMeet", inPlace := ["internal/bytealg.IndexByteString", "internal/bytealg.IndexString"], named := ["unicode/utf8.first", "unicode/utf8.acceptRanges", "internal/bytealg.MaxLen"], apart := false, laid := [("unicode/utf8.acceptRanges", laid_unicode_utf8_acceptRanges), ("unicode/utf8.first", laid_unicode_utf8_first)] }
def FnExactSwapMeetSaid : Prop := fnExactSwapMeetRow.holds Tryd.pinned (OpenSpec.ofChange fnExactSwapMeetSpec)

/-- ITS FALSE NEIGHBOUR: 'it returns false'. Refute it at one input. -/
def fnExactSwapMeetWrong : ChangeSpec := { name := "fnExactSwapMeet", fn := fun _ => fun
  | [d1, d2] => { results := [.lit (.bool false)], args := [d1, d2] }
  | _ => none }
def FnExactSwapMeetWrongFalsely : Prop := fnExactSwapMeetRow.holds Tryd.pinned (OpenSpec.ofChange fnExactSwapMeetWrong)

/- THE SECOND FORM. 'bulk': how many values and letters a reading holds, each counted each time it is reached (what is shared counts as often as it is met; a slice's spare places count too). A statement '..UptoSaid' is the law's where the arguments, and the package variables that the reading takes, are together of bulk at most 1048576: NARROWER than '..Said'. Prove '..Said' where nothing that the law and all that it calls make is longer than what came in: it says more and counts as full. Else prove '..UptoSaid'. A law counts once. -/
mutual
def uptoBulk {H : Type} : DataW H → Nat
  | .lit (.string bytes) => bytes.length + 1
  | .lit _ => 1
  | .nil => 1
  | .ptr d => uptoBulk d + 1
  | .slice elems spare => uptoBulkAll elems + uptoBulkAll spare + 1
  | .agg parts => uptoBulkAll parts + 1
  | .iface _ d => uptoBulk d + 1
  | .map entries => uptoBulkEntries entries + 1
  | .held _ => 1
def uptoBulkAll {H : Type} : List (DataW H) → Nat
  | [] => 0
  | d :: r => uptoBulk d + uptoBulkAll r
def uptoBulkEntries {H : Type} : List (Lit × DataW H) → Nat
  | [] => 0
  | x :: r => uptoBulkEntry x + uptoBulkEntries r
def uptoBulkEntry {H : Type} : Lit × DataW H → Nat
  | (.string bytes, d) => bytes.length + uptoBulk d + 1
  | (_, d) => uptoBulk d + 1
 end
def uptoSmall : (H : Type) → List (DataW H) → Bool := fun _ ds => decide (uptoBulkAll ds ≤ 1048576)
def OpenSpec.upto (s : _root_.Go.ChangeSpec) : _root_.Go.OpenSpec := { _root_.Go.OpenSpec.ofChange s with cond := some uptoSmall }

/-- 'laws.FnExactPairTimes', WHERE WHAT IT READS IS OF BULK AT MOST 1048576: true; the input reads as it did. -/
def fnExactPairTimesUptoRow : OpenClaim := { program := "ytdkhapfadcoclaadoor", sum := "202439be59ddace79b9037af39eb055fc4b24c016f9701123be6cde52aaed5e6", func := "loop.example/partialcharts/laws.FnExactPairTimes", spec := "fnExactPairTimes", inPlace := ["internal/bytealg.IndexByteString", "internal/bytealg.IndexString"], unfollowed := true, recurses := true, named := ["unicode/utf8.first", "unicode/utf8.acceptRanges", "internal/bytealg.MaxLen"], apart := false, laid := [("unicode/utf8.acceptRanges", laid_unicode_utf8_acceptRanges), ("unicode/utf8.first", laid_unicode_utf8_first)], narrowed := true }
def FnExactPairTimesUptoSaid : Prop := fnExactPairTimesUptoRow.holds Tryd.pinned (OpenSpec.upto fnExactPairTimesSpec)

/-- 'laws.FnExactPairWord', WHERE WHAT IT READS IS OF BULK AT MOST 1048576: true; the input reads as it did. -/
def fnExactPairWordUptoRow : OpenClaim := { program := "ytdkhapfadcoclaadoor", sum := "202439be59ddace79b9037af39eb055fc4b24c016f9701123be6cde52aaed5e6", func := "loop.example/partialcharts/laws.FnExactPairWord", spec := "fnExactPairWord", inPlace := ["internal/bytealg.IndexByteString", "internal/bytealg.IndexString"], unfollowed := true, recurses := true, named := ["unicode/utf8.first", "unicode/utf8.acceptRanges", "internal/bytealg.MaxLen"], apart := false, laid := [("unicode/utf8.acceptRanges", laid_unicode_utf8_acceptRanges), ("unicode/utf8.first", laid_unicode_utf8_first)], narrowed := true }
def FnExactPairWordUptoSaid : Prop := fnExactPairWordUptoRow.holds Tryd.pinned (OpenSpec.upto fnExactPairWordSpec)

/-- 'laws.FnExactPairBelow', WHERE WHAT IT READS IS OF BULK AT MOST 1048576: true; the input reads as it did. -/
def fnExactPairBelowUptoRow : OpenClaim := { program := "ytdkhapfadcoclaadoor", sum := "202439be59ddace79b9037af39eb055fc4b24c016f9701123be6cde52aaed5e6", func := "loop.example/partialcharts/laws.FnExactPairBelow", spec := "fnExactPairBelow", inPlace := ["internal/bytealg.IndexByteString", "internal/bytealg.IndexString"], unfollowed := true, recurses := true, named := ["unicode/utf8.first", "unicode/utf8.acceptRanges", "internal/bytealg.MaxLen"], apart := false, laid := [("unicode/utf8.acceptRanges", laid_unicode_utf8_acceptRanges), ("unicode/utf8.first", laid_unicode_utf8_first)], narrowed := true }
def FnExactPairBelowUptoSaid : Prop := fnExactPairBelowUptoRow.holds Tryd.pinned (OpenSpec.upto fnExactPairBelowSpec)

/-- 'laws.FnExactSwapIn', WHERE WHAT IT READS IS OF BULK AT MOST 1048576: true; the input reads as it did. -/
def fnExactSwapInUptoRow : OpenClaim := { program := "ytdkhapfadcoclaadoor", sum := "202439be59ddace79b9037af39eb055fc4b24c016f9701123be6cde52aaed5e6", func := "loop.example/partialcharts/laws.FnExactSwapIn", spec := "fnExactSwapIn", inPlace := ["internal/bytealg.IndexByteString", "internal/bytealg.IndexString"], named := ["unicode/utf8.first", "unicode/utf8.acceptRanges", "internal/bytealg.MaxLen"], apart := false, laid := [("unicode/utf8.acceptRanges", laid_unicode_utf8_acceptRanges), ("unicode/utf8.first", laid_unicode_utf8_first)], narrowed := true }
def FnExactSwapInUptoSaid : Prop := fnExactSwapInUptoRow.holds Tryd.pinned (OpenSpec.upto fnExactSwapInSpec)

/-- 'laws.FnExactSwapTimes', WHERE WHAT IT READS IS OF BULK AT MOST 1048576: true; the input reads as it did. -/
def fnExactSwapTimesUptoRow : OpenClaim := { program := "ytdkhapfadcoclaadoor", sum := "202439be59ddace79b9037af39eb055fc4b24c016f9701123be6cde52aaed5e6", func := "loop.example/partialcharts/laws.FnExactSwapTimes", spec := "fnExactSwapTimes", inPlace := ["internal/bytealg.IndexByteString", "internal/bytealg.IndexString"], unfollowed := true, recurses := true, named := ["unicode/utf8.first", "unicode/utf8.acceptRanges", "internal/bytealg.MaxLen"], apart := false, laid := [("unicode/utf8.acceptRanges", laid_unicode_utf8_acceptRanges), ("unicode/utf8.first", laid_unicode_utf8_first)], narrowed := true }
def FnExactSwapTimesUptoSaid : Prop := fnExactSwapTimesUptoRow.holds Tryd.pinned (OpenSpec.upto fnExactSwapTimesSpec)

/-- 'laws.FnExactSwapTurned', WHERE WHAT IT READS IS OF BULK AT MOST 1048576: true; the input reads as it did. -/
def fnExactSwapTurnedUptoRow : OpenClaim := { program := "ytdkhapfadcoclaadoor", sum := "202439be59ddace79b9037af39eb055fc4b24c016f9701123be6cde52aaed5e6", func := "loop.example/partialcharts/laws.FnExactSwapTurned", spec := "fnExactSwapTurned", inPlace := ["internal/bytealg.IndexByteString", "internal/bytealg.IndexString"], named := ["unicode/utf8.first", "unicode/utf8.acceptRanges", "internal/bytealg.MaxLen"], apart := false, laid := [("unicode/utf8.acceptRanges", laid_unicode_utf8_acceptRanges), ("unicode/utf8.first", laid_unicode_utf8_first)], narrowed := true }
def FnExactSwapTurnedUptoSaid : Prop := fnExactSwapTurnedUptoRow.holds Tryd.pinned (OpenSpec.upto fnExactSwapTurnedSpec)

/-- 'laws.FnExactSwapIdem', WHERE WHAT IT READS IS OF BULK AT MOST 1048576: true; the input reads as it did. -/
def fnExactSwapIdemUptoRow : OpenClaim := { program := "ytdkhapfadcoclaadoor", sum := "202439be59ddace79b9037af39eb055fc4b24c016f9701123be6cde52aaed5e6", func := "loop.example/partialcharts/laws.FnExactSwapIdem", spec := "fnExactSwapIdem", inPlace := ["internal/bytealg.IndexByteString", "internal/bytealg.IndexString"], named := ["unicode/utf8.first", "unicode/utf8.acceptRanges", "internal/bytealg.MaxLen"], apart := false, laid := [("unicode/utf8.acceptRanges", laid_unicode_utf8_acceptRanges), ("unicode/utf8.first", laid_unicode_utf8_first)], narrowed := true }
def FnExactSwapIdemUptoSaid : Prop := fnExactSwapIdemUptoRow.holds Tryd.pinned (OpenSpec.upto fnExactSwapIdemSpec)

/-- 'laws.FnExactSwapAct', WHERE WHAT IT READS IS OF BULK AT MOST 1048576: true; the input reads as it did. -/
def fnExactSwapActUptoRow : OpenClaim := { program := "ytdkhapfadcoclaadoor", sum := "202439be59ddace79b9037af39eb055fc4b24c016f9701123be6cde52aaed5e6", func := "loop.example/partialcharts/laws.FnExactSwapAct", spec := "fnExactSwapAct", inPlace := ["internal/bytealg.IndexByteString", "internal/bytealg.IndexString"], named := ["unicode/utf8.first", "unicode/utf8.acceptRanges", "internal/bytealg.MaxLen"], apart := false, laid := [("unicode/utf8.acceptRanges", laid_unicode_utf8_acceptRanges), ("unicode/utf8.first", laid_unicode_utf8_first)], narrowed := true }
def FnExactSwapActUptoSaid : Prop := fnExactSwapActUptoRow.holds Tryd.pinned (OpenSpec.upto fnExactSwapActSpec)

/-- 'laws.FnExactSwapBelow', WHERE WHAT IT READS IS OF BULK AT MOST 1048576: true; the input reads as it did. -/
def fnExactSwapBelowUptoRow : OpenClaim := { program := "ytdkhapfadcoclaadoor", sum := "202439be59ddace79b9037af39eb055fc4b24c016f9701123be6cde52aaed5e6", func := "loop.example/partialcharts/laws.FnExactSwapBelow", spec := "fnExactSwapBelow", inPlace := ["internal/bytealg.IndexByteString", "internal/bytealg.IndexString"], unfollowed := true, recurses := true, named := ["unicode/utf8.first", "unicode/utf8.acceptRanges", "internal/bytealg.MaxLen"], apart := false, laid := [("unicode/utf8.acceptRanges", laid_unicode_utf8_acceptRanges), ("unicode/utf8.first", laid_unicode_utf8_first)], narrowed := true }
def FnExactSwapBelowUptoSaid : Prop := fnExactSwapBelowUptoRow.holds Tryd.pinned (OpenSpec.upto fnExactSwapBelowSpec)

/-- 'laws.FnExactSwapMeet', WHERE WHAT IT READS IS OF BULK AT MOST 1048576: true; the input reads as it did. -/
def fnExactSwapMeetUptoRow : OpenClaim := { program := "ytdkhapfadcoclaadoor", sum := "202439be59ddace79b9037af39eb055fc4b24c016f9701123be6cde52aaed5e6", func := "loop.example/partialcharts/laws.FnExactSwapMeet", spec := "fnExactSwapMeet", inPlace := ["internal/bytealg.IndexByteString", "internal/bytealg.IndexString"], named := ["unicode/utf8.first", "unicode/utf8.acceptRanges", "internal/bytealg.MaxLen"], apart := false, laid := [("unicode/utf8.acceptRanges", laid_unicode_utf8_acceptRanges), ("unicode/utf8.first", laid_unicode_utf8_first)], narrowed := true }
def FnExactSwapMeetUptoSaid : Prop := fnExactSwapMeetUptoRow.holds Tryd.pinned (OpenSpec.upto fnExactSwapMeetSpec)

end Rows
end Go.Proofs.YtdkhapfadcoclaaDoor
