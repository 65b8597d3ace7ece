/-
  NARROWER THAN 'FOR EVERY INPUT', by the rows' own cells (each row's printed sentence says how): FnPair: laid · FnPairWord: laid · FnPairBelow: laid · FnSwap: laid · FnSwapTimes: laid · FnSwapBrackets: laid · FnSwapTurned: laid · FnSwapIdem: laid · FnSwapAct: laid · FnSwapBelow: laid · FnSwapMeet: laid.
  DERIVED. THE GIVEN ROWS OF THIS SEAT. 11 by the template 'for every input the law returns true; each argument reads behind the call as it read before'; 0 by the template 'total and deterministic' (their statements: YtdljndpobklkjaaDoorTotals.lean).
  GIVEN WITH THE SEED: the statements are not yours to turn. If you find one false, say at which input.
  Laid BY PROGRAM, IN A SANDBOX (cutbox-rows.mjs): the forced cells as the released guide's own fill.sh prints them over the translation fd65ea0399e92da8… (all of the seat's roots in one cut). By AI agents, Wed Nov 11 2026. No macro, syntax, notation, axiom, sorry.
-/
import Derived.Test.YtdljndpobklkjaaDoorChecked
import GoSem.PinnedTables
import GoSem.Claim
import GoSem.ClaimJoined
import GoSem.ClaimMapViews
import Derived.JoinedTies
import Derived.KernelRfl
namespace Go.Proofs.YtdljndpobklkjaaDoor
/- THE CELL 'sum', in the pinned program and in every row, IS THE sha256 OF THE DUMP (.gsa) THAT YtdljndpobklkjaaDoorProg.lean LOADS. Nothing in Lean hashes anything: it is a label: what it is worth is what the hold of that sum in a sandbox is worth. -/
noncomputable def Tryd.pinned : Pinned := { name := "ytdljndpobklkjaadoor", sum := "fd65ea0399e92da876b173dc0fd0e89c377cf90ecfaddfd4bd4bafcc1abc5ffe", checked := Tryd.checked }
namespace Rows
def none {H : Type} : Left H := { results := [], args := [] }

/- WHAT THE LISTED PACKAGE-LEVEL VARIABLES READ AS WHEN THE CALL BEGINS. Each datum BY PROGRAM (the guide's laid-datum.mjs) off the statement by which the dump's own 'gosem.cut.vars' lays the variable. In a bare row this is a premise. The card (YtdljndpobklkjaaDoorCards.lean) ties it to the program's text. -/
def laid_unicode_utf8_acceptRanges {H : Type} : DataW H := .agg [.agg [.lit (.int .u8 128), .lit (.int .u8 191)], .agg [.lit (.int .u8 160), .lit (.int .u8 191)], .agg [.lit (.int .u8 128), .lit (.int .u8 159)], .agg [.lit (.int .u8 144), .lit (.int .u8 191)], .agg [.lit (.int .u8 128), .lit (.int .u8 143)], .agg [.lit (.int .u8 0), .lit (.int .u8 0)], .agg [.lit (.int .u8 0), .lit (.int .u8 0)], .agg [.lit (.int .u8 0), .lit (.int .u8 0)], .agg [.lit (.int .u8 0), .lit (.int .u8 0)], .agg [.lit (.int .u8 0), .lit (.int .u8 0)], .agg [.lit (.int .u8 0), .lit (.int .u8 0)], .agg [.lit (.int .u8 0), .lit (.int .u8 0)], .agg [.lit (.int .u8 0), .lit (.int .u8 0)], .agg [.lit (.int .u8 0), .lit (.int .u8 0)], .agg [.lit (.int .u8 0), .lit (.int .u8 0)], .agg [.lit (.int .u8 0), .lit (.int .u8 0)]]
/-- One of Go's own tables, pinned by name: the form's constant. -/
def laid_unicode_utf8_first : DataW Unit := Go.Pinned.utf8First

/-- 'laws.FnPair': WHATEVER THE INPUT: true; the input reads as it did. -/
def fnPairSpec : ChangeSpec := { name := "fnPair", fn := fun _ => fun
  | [d] => { results := [.lit (.bool true)], args := [d] }
  | _ => none }
def fnPairRow : OpenClaim := { program := "ytdljndpobklkjaadoor", sum := "fd65ea0399e92da876b173dc0fd0e89c377cf90ecfaddfd4bd4bafcc1abc5ffe", func := "loop.example/partialcharts/laws.FnPair", spec := "fnPair", inPlace := ["internal/bytealg.IndexByteString", "internal/bytealg.IndexString"], unfollowed := true, recurses := true, named := ["unicode/utf8.first", "unicode/utf8.acceptRanges", "internal/bytealg.MaxLen"], apart := false, laid := [("unicode/utf8.acceptRanges", laid_unicode_utf8_acceptRanges), ("unicode/utf8.first", laid_unicode_utf8_first)] }
def FnPairSaid : Prop := fnPairRow.holds Tryd.pinned (OpenSpec.ofChange fnPairSpec)

/-- ITS FALSE NEIGHBOUR: 'it returns false'. Refute it at one input. -/
def fnPairWrong : ChangeSpec := { name := "fnPair", fn := fun _ => fun
  | [d] => { results := [.lit (.bool false)], args := [d] }
  | _ => none }
def FnPairWrongFalsely : Prop := fnPairRow.holds Tryd.pinned (OpenSpec.ofChange fnPairWrong)

/-- 'laws.FnPairWord': WHATEVER THE INPUT: true; the input reads as it did. -/
def fnPairWordSpec : ChangeSpec := { name := "fnPairWord", fn := fun _ => fun
  | [d] => { results := [.lit (.bool true)], args := [d] }
  | _ => none }
def fnPairWordRow : OpenClaim := { program := "ytdljndpobklkjaadoor", sum := "fd65ea0399e92da876b173dc0fd0e89c377cf90ecfaddfd4bd4bafcc1abc5ffe", func := "loop.example/partialcharts/laws.FnPairWord", spec := "fnPairWord", inPlace := ["internal/bytealg.IndexByteString", "internal/bytealg.IndexString"], unfollowed := true, recurses := true, named := ["unicode/utf8.first", "unicode/utf8.acceptRanges", "internal/bytealg.MaxLen"], apart := false, laid := [("unicode/utf8.acceptRanges", laid_unicode_utf8_acceptRanges), ("unicode/utf8.first", laid_unicode_utf8_first)] }
def FnPairWordSaid : Prop := fnPairWordRow.holds Tryd.pinned (OpenSpec.ofChange fnPairWordSpec)

/-- ITS FALSE NEIGHBOUR: 'it returns false'. Refute it at one input. -/
def fnPairWordWrong : ChangeSpec := { name := "fnPairWord", fn := fun _ => fun
  | [d] => { results := [.lit (.bool false)], args := [d] }
  | _ => none }
def FnPairWordWrongFalsely : Prop := fnPairWordRow.holds Tryd.pinned (OpenSpec.ofChange fnPairWordWrong)

/-- 'laws.FnPairBelow': WHATEVER THE INPUT: true; the input reads as it did. -/
def fnPairBelowSpec : ChangeSpec := { name := "fnPairBelow", fn := fun _ => fun
  | [d] => { results := [.lit (.bool true)], args := [d] }
  | _ => none }
def fnPairBelowRow : OpenClaim := { program := "ytdljndpobklkjaadoor", sum := "fd65ea0399e92da876b173dc0fd0e89c377cf90ecfaddfd4bd4bafcc1abc5ffe", func := "loop.example/partialcharts/laws.FnPairBelow", spec := "fnPairBelow", inPlace := ["internal/bytealg.IndexByteString", "internal/bytealg.IndexString"], unfollowed := true, recurses := true, named := ["unicode/utf8.first", "unicode/utf8.acceptRanges", "internal/bytealg.MaxLen"], apart := false, laid := [("unicode/utf8.acceptRanges", laid_unicode_utf8_acceptRanges), ("unicode/utf8.first", laid_unicode_utf8_first)] }
def FnPairBelowSaid : Prop := fnPairBelowRow.holds Tryd.pinned (OpenSpec.ofChange fnPairBelowSpec)

/-- ITS FALSE NEIGHBOUR: 'it returns false'. Refute it at one input. -/
def fnPairBelowWrong : ChangeSpec := { name := "fnPairBelow", fn := fun _ => fun
  | [d] => { results := [.lit (.bool false)], args := [d] }
  | _ => none }
def FnPairBelowWrongFalsely : Prop := fnPairBelowRow.holds Tryd.pinned (OpenSpec.ofChange fnPairBelowWrong)

/-- 'laws.FnSwap': WHATEVER THE INPUT: true; the input reads as it did. -/
def fnSwapSpec : ChangeSpec := { name := "fnSwap", fn := fun _ => fun
  | [d] => { results := [.lit (.bool true)], args := [d] }
  | _ => none }
def fnSwapRow : OpenClaim := { program := "ytdljndpobklkjaadoor", sum := "fd65ea0399e92da876b173dc0fd0e89c377cf90ecfaddfd4bd4bafcc1abc5ffe", func := "loop.example/partialcharts/laws.FnSwap", spec := "fnSwap", inPlace := ["internal/bytealg.IndexByteString", "internal/bytealg.IndexString"], unfollowed := true, recurses := true, named := ["unicode/utf8.first", "unicode/utf8.acceptRanges", "internal/bytealg.MaxLen"], apart := false, laid := [("unicode/utf8.acceptRanges", laid_unicode_utf8_acceptRanges), ("unicode/utf8.first", laid_unicode_utf8_first)] }
def FnSwapSaid : Prop := fnSwapRow.holds Tryd.pinned (OpenSpec.ofChange fnSwapSpec)

/-- ITS FALSE NEIGHBOUR: 'it returns false'. Refute it at one input. -/
def fnSwapWrong : ChangeSpec := { name := "fnSwap", fn := fun _ => fun
  | [d] => { results := [.lit (.bool false)], args := [d] }
  | _ => none }
def FnSwapWrongFalsely : Prop := fnSwapRow.holds Tryd.pinned (OpenSpec.ofChange fnSwapWrong)

/-- 'laws.FnSwapTimes': WHATEVER THE INPUT: true; the input reads as it did. -/
def fnSwapTimesSpec : ChangeSpec := { name := "fnSwapTimes", fn := fun _ => fun
  | [d] => { results := [.lit (.bool true)], args := [d] }
  | _ => none }
def fnSwapTimesRow : OpenClaim := { program := "ytdljndpobklkjaadoor", sum := "fd65ea0399e92da876b173dc0fd0e89c377cf90ecfaddfd4bd4bafcc1abc5ffe", func := "loop.example/partialcharts/laws.FnSwapTimes", spec := "fnSwapTimes", inPlace := ["internal/bytealg.IndexByteString", "internal/bytealg.IndexString"], unfollowed := true, recurses := true, named := ["unicode/utf8.first", "unicode/utf8.acceptRanges", "internal/bytealg.MaxLen"], apart := false, laid := [("unicode/utf8.acceptRanges", laid_unicode_utf8_acceptRanges), ("unicode/utf8.first", laid_unicode_utf8_first)] }
def FnSwapTimesSaid : Prop := fnSwapTimesRow.holds Tryd.pinned (OpenSpec.ofChange fnSwapTimesSpec)

/-- ITS FALSE NEIGHBOUR: 'it returns false'. Refute it at one input. -/
def fnSwapTimesWrong : ChangeSpec := { name := "fnSwapTimes", fn := fun _ => fun
  | [d] => { results := [.lit (.bool false)], args := [d] }
  | _ => none }
def FnSwapTimesWrongFalsely : Prop := fnSwapTimesRow.holds Tryd.pinned (OpenSpec.ofChange fnSwapTimesWrong)

/-- 'laws.FnSwapBrackets': WHATEVER THE INPUT: true; the input reads as it did. -/
def fnSwapBracketsSpec : ChangeSpec := { name := "fnSwapBrackets", fn := fun _ => fun
  | [d] => { results := [.lit (.bool true)], args := [d] }
  | _ => none }
def fnSwapBracketsRow : OpenClaim := { program := "ytdljndpobklkjaadoor", sum := "fd65ea0399e92da876b173dc0fd0e89c377cf90ecfaddfd4bd4bafcc1abc5ffe", func := "loop.example/partialcharts/laws.FnSwapBrackets", spec := "fnSwapBrackets", inPlace := ["internal/bytealg.IndexByteString", "internal/bytealg.IndexString"], unfollowed := true, recurses := true, named := ["unicode/utf8.first", "unicode/utf8.acceptRanges", "internal/bytealg.MaxLen"], apart := false, laid := [("unicode/utf8.acceptRanges", laid_unicode_utf8_acceptRanges), ("unicode/utf8.first", laid_unicode_utf8_first)] }
def FnSwapBracketsSaid : Prop := fnSwapBracketsRow.holds Tryd.pinned (OpenSpec.ofChange fnSwapBracketsSpec)

/-- ITS FALSE NEIGHBOUR: 'it returns false'. Refute it at one input. -/
def fnSwapBracketsWrong : ChangeSpec := { name := "fnSwapBrackets", fn := fun _ => fun
  | [d] => { results := [.lit (.bool false)], args := [d] }
  | _ => none }
def FnSwapBracketsWrongFalsely : Prop := fnSwapBracketsRow.holds Tryd.pinned (OpenSpec.ofChange fnSwapBracketsWrong)

/-- 'laws.FnSwapTurned': WHATEVER THE INPUT: true; the input reads as it did. -/
def fnSwapTurnedSpec : ChangeSpec := { name := "fnSwapTurned", fn := fun _ => fun
  | [d] => { results := [.lit (.bool true)], args := [d] }
  | _ => none }
def fnSwapTurnedRow : OpenClaim := { program := "ytdljndpobklkjaadoor", sum := "fd65ea0399e92da876b173dc0fd0e89c377cf90ecfaddfd4bd4bafcc1abc5ffe", func := "loop.example/partialcharts/laws.FnSwapTurned", spec := "fnSwapTurned", inPlace := ["internal/bytealg.IndexByteString", "internal/bytealg.IndexString"], named := ["unicode/utf8.first", "unicode/utf8.acceptRanges", "internal/bytealg.MaxLen"], apart := false, laid := [("unicode/utf8.acceptRanges", laid_unicode_utf8_acceptRanges), ("unicode/utf8.first", laid_unicode_utf8_first)] }
def FnSwapTurnedSaid : Prop := fnSwapTurnedRow.holds Tryd.pinned (OpenSpec.ofChange fnSwapTurnedSpec)

/-- ITS FALSE NEIGHBOUR: 'it returns false'. Refute it at one input. -/
def fnSwapTurnedWrong : ChangeSpec := { name := "fnSwapTurned", fn := fun _ => fun
  | [d] => { results := [.lit (.bool false)], args := [d] }
  | _ => none }
def FnSwapTurnedWrongFalsely : Prop := fnSwapTurnedRow.holds Tryd.pinned (OpenSpec.ofChange fnSwapTurnedWrong)

/-- 'laws.FnSwapIdem': WHATEVER THE INPUT: true; the input reads as it did. -/
def fnSwapIdemSpec : ChangeSpec := { name := "fnSwapIdem", fn := fun _ => fun
  | [d] => { results := [.lit (.bool true)], args := [d] }
  | _ => none }
def fnSwapIdemRow : OpenClaim := { program := "ytdljndpobklkjaadoor", sum := "fd65ea0399e92da876b173dc0fd0e89c377cf90ecfaddfd4bd4bafcc1abc5ffe", func := "loop.example/partialcharts/laws.FnSwapIdem", spec := "fnSwapIdem", inPlace := ["internal/bytealg.IndexByteString", "internal/bytealg.IndexString"], unfollowed := true, recurses := true, named := ["unicode/utf8.first", "unicode/utf8.acceptRanges", "internal/bytealg.MaxLen"], apart := false, laid := [("unicode/utf8.acceptRanges", laid_unicode_utf8_acceptRanges), ("unicode/utf8.first", laid_unicode_utf8_first)] }
def FnSwapIdemSaid : Prop := fnSwapIdemRow.holds Tryd.pinned (OpenSpec.ofChange fnSwapIdemSpec)

/-- ITS FALSE NEIGHBOUR: 'it returns false'. Refute it at one input. -/
def fnSwapIdemWrong : ChangeSpec := { name := "fnSwapIdem", fn := fun _ => fun
  | [d] => { results := [.lit (.bool false)], args := [d] }
  | _ => none }
def FnSwapIdemWrongFalsely : Prop := fnSwapIdemRow.holds Tryd.pinned (OpenSpec.ofChange fnSwapIdemWrong)

/-- 'laws.FnSwapAct': WHATEVER THE INPUT: true; the input reads as it did. -/
def fnSwapActSpec : ChangeSpec := { name := "fnSwapAct", fn := fun _ => fun
  | [d] => { results := [.lit (.bool true)], args := [d] }
  | _ => none }
def fnSwapActRow : OpenClaim := { program := "ytdljndpobklkjaadoor", sum := "fd65ea0399e92da876b173dc0fd0e89c377cf90ecfaddfd4bd4bafcc1abc5ffe", func := "loop.example/partialcharts/laws.FnSwapAct", spec := "fnSwapAct", inPlace := ["internal/bytealg.IndexByteString", "internal/bytealg.IndexString"], named := ["unicode/utf8.first", "unicode/utf8.acceptRanges", "internal/bytealg.MaxLen"], apart := false, laid := [("unicode/utf8.acceptRanges", laid_unicode_utf8_acceptRanges), ("unicode/utf8.first", laid_unicode_utf8_first)] }
def FnSwapActSaid : Prop := fnSwapActRow.holds Tryd.pinned (OpenSpec.ofChange fnSwapActSpec)

/-- ITS FALSE NEIGHBOUR: 'it returns false'. Refute it at one input. -/
def fnSwapActWrong : ChangeSpec := { name := "fnSwapAct", fn := fun _ => fun
  | [d] => { results := [.lit (.bool false)], args := [d] }
  | _ => none }
def FnSwapActWrongFalsely : Prop := fnSwapActRow.holds Tryd.pinned (OpenSpec.ofChange fnSwapActWrong)

/-- 'laws.FnSwapBelow': WHATEVER THE INPUT: true; the input reads as it did. -/
def fnSwapBelowSpec : ChangeSpec := { name := "fnSwapBelow", fn := fun _ => fun
  | [d] => { results := [.lit (.bool true)], args := [d] }
  | _ => none }
def fnSwapBelowRow : OpenClaim := { program := "ytdljndpobklkjaadoor", sum := "fd65ea0399e92da876b173dc0fd0e89c377cf90ecfaddfd4bd4bafcc1abc5ffe", func := "loop.example/partialcharts/laws.FnSwapBelow", spec := "fnSwapBelow", inPlace := ["internal/bytealg.IndexByteString", "internal/bytealg.IndexString"], unfollowed := true, recurses := true, named := ["unicode/utf8.first", "unicode/utf8.acceptRanges", "internal/bytealg.MaxLen"], apart := false, laid := [("unicode/utf8.acceptRanges", laid_unicode_utf8_acceptRanges), ("unicode/utf8.first", laid_unicode_utf8_first)] }
def FnSwapBelowSaid : Prop := fnSwapBelowRow.holds Tryd.pinned (OpenSpec.ofChange fnSwapBelowSpec)

/-- ITS FALSE NEIGHBOUR: 'it returns false'. Refute it at one input. -/
def fnSwapBelowWrong : ChangeSpec := { name := "fnSwapBelow", fn := fun _ => fun
  | [d] => { results := [.lit (.bool false)], args := [d] }
  | _ => none }
def FnSwapBelowWrongFalsely : Prop := fnSwapBelowRow.holds Tryd.pinned (OpenSpec.ofChange fnSwapBelowWrong)

/-- 'laws.FnSwapMeet': WHATEVER THE INPUT: true; the input reads as it did. -/
def fnSwapMeetSpec : ChangeSpec := { name := "fnSwapMeet", fn := fun _ => fun
  | [d] => { results := [.lit (.bool true)], args := [d] }
  | _ => none }
def fnSwapMeetRow : OpenClaim := { program := "ytdljndpobklkjaadoor", sum := "fd65ea0399e92da876b173dc0fd0e89c377cf90ecfaddfd4bd4bafcc1abc5ffe", func := "loop.example/partialcharts/laws.FnSwapMeet", spec := "fnSwapMeet", inPlace := ["internal/bytealg.IndexByteString", "internal/bytealg.IndexString"], unfollowed := true, recurses := true, named := ["unicode/utf8.first", "unicode/utf8.acceptRanges", "internal/bytealg.MaxLen"], apart := false, laid := [("unicode/utf8.acceptRanges", laid_unicode_utf8_acceptRanges), ("unicode/utf8.first", laid_unicode_utf8_first)] }
def FnSwapMeetSaid : Prop := fnSwapMeetRow.holds Tryd.pinned (OpenSpec.ofChange fnSwapMeetSpec)

/-- ITS FALSE NEIGHBOUR: 'it returns false'. Refute it at one input. -/
def fnSwapMeetWrong : ChangeSpec := { name := "fnSwapMeet", fn := fun _ => fun
  | [d] => { results := [.lit (.bool false)], args := [d] }
  | _ => none }
def FnSwapMeetWrongFalsely : Prop := fnSwapMeetRow.holds Tryd.pinned (OpenSpec.ofChange fnSwapMeetWrong)

/- THE SECOND FORM. 'bulk': how many values and letters a reading holds, each counted each time it is reached (what is shared counts as often as it is met; a slice's spare places count too). A statement '..UptoSaid' is the law's where the arguments, and the package variables that the reading takes, are together of bulk at most 1048576: NARROWER than '..Said'. Prove '..Said' where nothing that the law and all that it calls make is longer than what came in: it says more and counts as full. Else prove '..UptoSaid'. A law counts once. -/
mutual
def uptoBulk {H : Type} : DataW H → Nat
  | .lit (.string bytes) => bytes.length + 1
  | .lit _ => 1
  | .nil => 1
  | .ptr d => uptoBulk d + 1
  | .slice elems spare => uptoBulkAll elems + uptoBulkAll spare + 1
  | .agg parts => uptoBulkAll parts + 1
  | .iface _ d => uptoBulk d + 1
  | .map entries => uptoBulkEntries entries + 1
  | .held _ => 1
def uptoBulkAll {H : Type} : List (DataW H) → Nat
  | [] => 0
  | d :: r => uptoBulk d + uptoBulkAll r
def uptoBulkEntries {H : Type} : List (Lit × DataW H) → Nat
  | [] => 0
  | x :: r => uptoBulkEntry x + uptoBulkEntries r
def uptoBulkEntry {H : Type} : Lit × DataW H → Nat
  | (.string bytes, d) => bytes.length + uptoBulk d + 1
  | (_, d) => uptoBulk d + 1
 end
def uptoSmall : (H : Type) → List (DataW H) → Bool := fun _ ds => decide (uptoBulkAll ds ≤ 1048576)
def OpenSpec.upto (s : _root_.Go.ChangeSpec) : _root_.Go.OpenSpec := { _root_.Go.OpenSpec.ofChange s with cond := some uptoSmall }

/-- 'laws.FnPair', WHERE WHAT IT READS IS OF BULK AT MOST 1048576: true; the input reads as it did. -/
def fnPairUptoRow : OpenClaim := { program := "ytdljndpobklkjaadoor", sum := "fd65ea0399e92da876b173dc0fd0e89c377cf90ecfaddfd4bd4bafcc1abc5ffe", func := "loop.example/partialcharts/laws.FnPair", spec := "fnPair", inPlace := ["internal/bytealg.IndexByteString", "internal/bytealg.IndexString"], unfollowed := true, recurses := true, named := ["unicode/utf8.first", "unicode/utf8.acceptRanges", "internal/bytealg.MaxLen"], apart := false, laid := [("unicode/utf8.acceptRanges", laid_unicode_utf8_acceptRanges), ("unicode/utf8.first", laid_unicode_utf8_first)], narrowed := true }
def FnPairUptoSaid : Prop := fnPairUptoRow.holds Tryd.pinned (OpenSpec.upto fnPairSpec)

/-- 'laws.FnPairWord', WHERE WHAT IT READS IS OF BULK AT MOST 1048576: true; the input reads as it did. -/
def fnPairWordUptoRow : OpenClaim := { program := "ytdljndpobklkjaadoor", sum := "fd65ea0399e92da876b173dc0fd0e89c377cf90ecfaddfd4bd4bafcc1abc5ffe", func := "loop.example/partialcharts/laws.FnPairWord", spec := "fnPairWord", inPlace := ["internal/bytealg.IndexByteString", "internal/bytealg.IndexString"], unfollowed := true, recurses := true, named := ["unicode/utf8.first", "unicode/utf8.acceptRanges", "internal/bytealg.MaxLen"], apart := false, laid := [("unicode/utf8.acceptRanges", laid_unicode_utf8_acceptRanges), ("unicode/utf8.first", laid_unicode_utf8_first)], narrowed := true }
def FnPairWordUptoSaid : Prop := fnPairWordUptoRow.holds Tryd.pinned (OpenSpec.upto fnPairWordSpec)

/-- 'laws.FnPairBelow', WHERE WHAT IT READS IS OF BULK AT MOST 1048576: true; the input reads as it did. -/
def fnPairBelowUptoRow : OpenClaim := { program := "ytdljndpobklkjaadoor", sum := "fd65ea0399e92da876b173dc0fd0e89c377cf90ecfaddfd4bd4bafcc1abc5ffe", func := "loop.example/partialcharts/laws.FnPairBelow", spec := "fnPairBelow", inPlace := ["internal/bytealg.IndexByteString", "internal/bytealg.IndexString"], unfollowed := true, recurses := true, named := ["unicode/utf8.first", "unicode/utf8.acceptRanges", "internal/bytealg.MaxLen"], apart := false, laid := [("unicode/utf8.acceptRanges", laid_unicode_utf8_acceptRanges), ("unicode/utf8.first", laid_unicode_utf8_first)], narrowed := true }
def FnPairBelowUptoSaid : Prop := fnPairBelowUptoRow.holds Tryd.pinned (OpenSpec.upto fnPairBelowSpec)

/-- 'laws.FnSwap', WHERE WHAT IT READS IS OF BULK AT MOST 1048576: true; the input reads as it did. -/
def fnSwapUptoRow : OpenClaim := { program := "ytdljndpobklkjaadoor", sum := "fd65ea0399e92da876b173dc0fd0e89c377cf90ecfaddfd4bd4bafcc1abc5ffe", func := "loop.example/partialcharts/laws.FnSwap", spec := "fnSwap", inPlace := ["internal/bytealg.IndexByteString", "internal/bytealg.IndexString"], unfollowed := true, recurses := true, named := ["unicode/utf8.first", "unicode/utf8.acceptRanges", "internal/bytealg.MaxLen"], apart := false, laid := [("unicode/utf8.acceptRanges", laid_unicode_utf8_acceptRanges), ("unicode/utf8.first", laid_unicode_utf8_first)], narrowed := true }
def FnSwapUptoSaid : Prop := fnSwapUptoRow.holds Tryd.pinned (OpenSpec.upto fnSwapSpec)

/-- 'laws.FnSwapTimes', WHERE WHAT IT READS IS OF BULK AT MOST 1048576: true; the input reads as it did. -/
def fnSwapTimesUptoRow : OpenClaim := { program := "ytdljndpobklkjaadoor", sum := "fd65ea0399e92da876b173dc0fd0e89c377cf90ecfaddfd4bd4bafcc1abc5ffe", func := "loop.example/partialcharts/laws.FnSwapTimes", spec := "fnSwapTimes", inPlace := ["internal/bytealg.IndexByteString", "internal/bytealg.IndexString"], unfollowed := true, recurses := true, named := ["unicode/utf8.first", "unicode/utf8.acceptRanges", "internal/bytealg.MaxLen"], apart := false, laid := [("unicode/utf8.acceptRanges", laid_unicode_utf8_acceptRanges), ("unicode/utf8.first", laid_unicode_utf8_first)], narrowed := true }
def FnSwapTimesUptoSaid : Prop := fnSwapTimesUptoRow.holds Tryd.pinned (OpenSpec.upto fnSwapTimesSpec)

/-- 'laws.FnSwapBrackets', WHERE WHAT IT READS IS OF BULK AT MOST 1048576: true; the input reads as it did. -/
def fnSwapBracketsUptoRow : OpenClaim := { program := "ytdljndpobklkjaadoor", sum := "fd65ea0399e92da876b173dc0fd0e89c377cf90ecfaddfd4bd4bafcc1abc5ffe", func := "loop.example/partialcharts/laws.FnSwapBrackets", spec := "fnSwapBrackets", inPlace := ["internal/bytealg.IndexByteString", "internal/bytealg.IndexString"], unfollowed := true, recurses := true, named := ["unicode/utf8.first", "unicode/utf8.acceptRanges", "internal/bytealg.MaxLen"], apart := false, laid := [("unicode/utf8.acceptRanges", laid_unicode_utf8_acceptRanges), ("unicode/utf8.first", laid_unicode_utf8_first)], narrowed := true }
def FnSwapBracketsUptoSaid : Prop := fnSwapBracketsUptoRow.holds Tryd.pinned (OpenSpec.upto fnSwapBracketsSpec)

/-- 'laws.FnSwapTurned', WHERE WHAT IT READS IS OF BULK AT MOST 1048576: true; the input reads as it did. -/
def fnSwapTurnedUptoRow : OpenClaim := { program := "ytdljndpobklkjaadoor", sum := "fd65ea0399e92da876b173dc0fd0e89c377cf90ecfaddfd4bd4bafcc1abc5ffe", func := "loop.example/partialcharts/laws.FnSwapTurned", spec := "fnSwapTurned", inPlace := ["internal/bytealg.IndexByteString", "internal/bytealg.IndexString"], named := ["unicode/utf8.first", "unicode/utf8.acceptRanges", "internal/bytealg.MaxLen"], apart := false, laid := [("unicode/utf8.acceptRanges", laid_unicode_utf8_acceptRanges), ("unicode/utf8.first", laid_unicode_utf8_first)], narrowed := true }
def FnSwapTurnedUptoSaid : Prop := fnSwapTurnedUptoRow.holds Tryd.pinned (OpenSpec.upto fnSwapTurnedSpec)

/-- 'laws.FnSwapIdem', WHERE WHAT IT READS IS OF BULK AT MOST 1048576: true; the input reads as it did. -/
def fnSwapIdemUptoRow : OpenClaim := { program := "ytdljndpobklkjaadoor", sum := "fd65ea0399e92da876b173dc0fd0e89c377cf90ecfaddfd4bd4bafcc1abc5ffe", func := "loop.example/partialcharts/laws.FnSwapIdem", spec := "fnSwapIdem", inPlace := ["internal/bytealg.IndexByteString", "internal/bytealg.IndexString"], unfollowed := true, recurses := true, named := ["unicode/utf8.first", "unicode/utf8.acceptRanges", "internal/bytealg.MaxLen"], apart := false, laid := [("unicode/utf8.acceptRanges", laid_unicode_utf8_acceptRanges), ("unicode/utf8.first", laid_unicode_utf8_first)], narrowed := true }
def FnSwapIdemUptoSaid : Prop := fnSwapIdemUptoRow.holds Tryd.pinned (OpenSpec.upto fnSwapIdemSpec)

/-- 'laws.FnSwapAct', WHERE WHAT IT READS IS OF BULK AT MOST 1048576: true; the input reads as it did. -/
def fnSwapActUptoRow : OpenClaim := { program := "ytdljndpobklkjaadoor", sum := "fd65ea0399e92da876b173dc0fd0e89c377cf90ecfaddfd4bd4bafcc1abc5ffe", func := "loop.example/partialcharts/laws.FnSwapAct", spec := "fnSwapAct", inPlace := ["internal/bytealg.IndexByteString", "internal/bytealg.IndexString"], named := ["unicode/utf8.first", "unicode/utf8.acceptRanges", "internal/bytealg.MaxLen"], apart := false, laid := [("unicode/utf8.acceptRanges", laid_unicode_utf8_acceptRanges), ("unicode/utf8.first", laid_unicode_utf8_first)], narrowed := true }
def FnSwapActUptoSaid : Prop := fnSwapActUptoRow.holds Tryd.pinned (OpenSpec.upto fnSwapActSpec)

/-- 'laws.FnSwapBelow', WHERE WHAT IT READS IS OF BULK AT MOST 1048576: true; the input reads as it did. -/
def fnSwapBelowUptoRow : OpenClaim := { program := "ytdljndpobklkjaadoor", sum := "fd65ea0399e92da876b173dc0fd0e89c377cf90ecfaddfd4bd4bafcc1abc5ffe", func := "loop.example/partialcharts/laws.FnSwapBelow", spec := "fnSwapBelow", inPlace := ["internal/bytealg.IndexByteString", "internal/bytealg.IndexString"], unfollowed := true, recurses := true, named := ["unicode/utf8.first", "unicode/utf8.acceptRanges", "internal/bytealg.MaxLen"], apart := false, laid := [("unicode/utf8.acceptRanges", laid_unicode_utf8_acceptRanges), ("unicode/utf8.first", laid_unicode_utf8_first)], narrowed := true }
def FnSwapBelowUptoSaid : Prop := fnSwapBelowUptoRow.holds Tryd.pinned (OpenSpec.upto fnSwapBelowSpec)

/-- 'laws.FnSwapMeet', WHERE WHAT IT READS IS OF BULK AT MOST 1048576: true; the input reads as it did. -/
def fnSwapMeetUptoRow : OpenClaim := { program := "ytdljndpobklkjaadoor", sum := "fd65ea0399e92da876b173dc0fd0e89c377cf90ecfaddfd4bd4bafcc1abc5ffe", func := "loop.example/partialcharts/laws.FnSwapMeet", spec := "fnSwapMeet", inPlace := ["internal/bytealg.IndexByteString", "internal/bytealg.IndexString"], unfollowed := true, recurses := true, named := ["unicode/utf8.first", "unicode/utf8.acceptRanges", "internal/bytealg.MaxLen"], apart := false, laid := [("unicode/utf8.acceptRanges", laid_unicode_utf8_acceptRanges), ("unicode/utf8.first", laid_unicode_utf8_first)], narrowed := true }
def FnSwapMeetUptoSaid : Prop := fnSwapMeetUptoRow.holds Tryd.pinned (OpenSpec.upto fnSwapMeetSpec)

end Rows
end Go.Proofs.YtdljndpobklkjaaDoor
