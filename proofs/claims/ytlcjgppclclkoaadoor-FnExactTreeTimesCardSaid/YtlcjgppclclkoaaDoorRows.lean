/-
  NARROWER THAN 'FOR EVERY INPUT', by the rows' own cells (each row's printed sentence says how): FnReduced: laid · FnExactTreeOf: laid · FnExactTreeSame: laid · FnExactTreeIn: laid · FnExactTreeIdem: laid · FnExactTreeBelow: laid · FnExactTreeWalk: laid · FnExactTreeWord: laid · FnExactTreeTimes: laid · FnExactTreeTurned: laid.
  DERIVED. THE GIVEN ROWS OF THIS SEAT. 10 by the template 'for every input the law returns true; each argument reads behind the call as it read before'; 0 by the template 'total and deterministic' (their statements: YtlcjgppclclkoaaDoorTotals.lean).
  GIVEN WITH THE SEED: the statements are not yours to turn. If you find one false, say at which input.
  Laid BY PROGRAM, IN A SANDBOX (cutbox-rows.mjs): the forced cells as the released guide's own fill.sh prints them over the translation 0301cef418f6d828… (all of the seat's roots in one cut). By AI agents, Wed Nov 11 2026. No macro, syntax, notation, axiom, sorry.
-/
import Derived.Test.YtlcjgppclclkoaaDoorChecked
import GoSem.PinnedTables
import GoSem.Claim
import GoSem.ClaimJoined
import GoSem.ClaimMapViews
import Derived.JoinedTies
import Derived.KernelRfl
namespace Go.Proofs.YtlcjgppclclkoaaDoor
/- THE CELL 'sum', in the pinned program and in every row, IS THE sha256 OF THE DUMP (.gsa) THAT YtlcjgppclclkoaaDoorProg.lean LOADS. Nothing in Lean hashes anything: it is a label: what it is worth is what the hold of that sum in a sandbox is worth. -/
noncomputable def Tryd.pinned : Pinned := { name := "ytlcjgppclclkoaadoor", sum := "0301cef418f6d82856493057b819c2e6cf5c215007856af58ca32dcf70d686dc", checked := Tryd.checked }
namespace Rows
def none {H : Type} : Left H := { results := [], args := [] }

/- WHAT THE LISTED PACKAGE-LEVEL VARIABLES READ AS WHEN THE CALL BEGINS. Each datum BY PROGRAM (the guide's laid-datum.mjs) off the statement by which the dump's own 'gosem.cut.vars' lays the variable. In a bare row this is a premise. The card (YtlcjgppclclkoaaDoorCards.lean) ties it to the program's text. -/
def laid_unicode_utf8_acceptRanges {H : Type} : DataW H := .agg [.agg [.lit (.int .u8 128), .lit (.int .u8 191)], .agg [.lit (.int .u8 160), .lit (.int .u8 191)], .agg [.lit (.int .u8 128), .lit (.int .u8 159)], .agg [.lit (.int .u8 144), .lit (.int .u8 191)], .agg [.lit (.int .u8 128), .lit (.int .u8 143)], .agg [.lit (.int .u8 0), .lit (.int .u8 0)], .agg [.lit (.int .u8 0), .lit (.int .u8 0)], .agg [.lit (.int .u8 0), .lit (.int .u8 0)], .agg [.lit (.int .u8 0), .lit (.int .u8 0)], .agg [.lit (.int .u8 0), .lit (.int .u8 0)], .agg [.lit (.int .u8 0), .lit (.int .u8 0)], .agg [.lit (.int .u8 0), .lit (.int .u8 0)], .agg [.lit (.int .u8 0), .lit (.int .u8 0)], .agg [.lit (.int .u8 0), .lit (.int .u8 0)], .agg [.lit (.int .u8 0), .lit (.int .u8 0)], .agg [.lit (.int .u8 0), .lit (.int .u8 0)]]
/-- One of Go's own tables, pinned by name: the form's constant. -/
def laid_unicode_utf8_first : DataW Unit := Go.Pinned.utf8First

/-- 'laws.FnReduced': WHATEVER THE INPUT: true; the input reads as it did. -/
def fnReducedSpec : ChangeSpec := { name := "fnReduced", fn := fun _ => fun
  | [d] => { results := [.lit (.bool true)], args := [d] }
  | _ => none }
def fnReducedRow : OpenClaim := { program := "ytlcjgppclclkoaadoor", sum := "0301cef418f6d82856493057b819c2e6cf5c215007856af58ca32dcf70d686dc", func := "loop.example/partialcharts/laws.FnReduced", spec := "fnReduced", inPlace := ["internal/bytealg.IndexByteString", "internal/bytealg.IndexString", "internal/bytealg.abigen_runtime_cmpstring"], unfollowed := true, recurses := true, named := ["unicode/utf8.first", "unicode/utf8.acceptRanges", "internal/bytealg.MaxLen"], apart := false, laid := [("unicode/utf8.acceptRanges", laid_unicode_utf8_acceptRanges), ("unicode/utf8.first", laid_unicode_utf8_first)] }
def FnReducedSaid : Prop := fnReducedRow.holds Tryd.pinned (OpenSpec.ofChange fnReducedSpec)

/-- ITS FALSE NEIGHBOUR: 'it returns false'. Refute it at one input. -/
def fnReducedWrong : ChangeSpec := { name := "fnReduced", fn := fun _ => fun
  | [d] => { results := [.lit (.bool false)], args := [d] }
  | _ => none }
def FnReducedWrongFalsely : Prop := fnReducedRow.holds Tryd.pinned (OpenSpec.ofChange fnReducedWrong)

/-- 'laws.FnExactTreeOf': WHATEVER THE INPUT: true; the input reads as it did. -/
def fnExactTreeOfSpec : ChangeSpec := { name := "fnExactTreeOf", fn := fun _ => fun
  | [d] => { results := [.lit (.bool true)], args := [d] }
  | _ => none }
def fnExactTreeOfRow : OpenClaim := { program := "ytlcjgppclclkoaadoor", sum := "0301cef418f6d82856493057b819c2e6cf5c215007856af58ca32dcf70d686dc", func := "loop.example/partialcharts/laws.FnExactTreeOf", spec := "fnExactTreeOf", inPlace := ["internal/bytealg.IndexByteString", "internal/bytealg.IndexString", "internal/bytealg.abigen_runtime_cmpstring"], unfollowed := true, recurses := true, named := ["unicode/utf8.first", "unicode/utf8.acceptRanges", "internal/bytealg.MaxLen"], apart := false, laid := [("unicode/utf8.acceptRanges", laid_unicode_utf8_acceptRanges), ("unicode/utf8.first", laid_unicode_utf8_first)] }
def FnExactTreeOfSaid : Prop := fnExactTreeOfRow.holds Tryd.pinned (OpenSpec.ofChange fnExactTreeOfSpec)

/-- ITS FALSE NEIGHBOUR: 'it returns false'. Refute it at one input. -/
def fnExactTreeOfWrong : ChangeSpec := { name := "fnExactTreeOf", fn := fun _ => fun
  | [d] => { results := [.lit (.bool false)], args := [d] }
  | _ => none }
def FnExactTreeOfWrongFalsely : Prop := fnExactTreeOfRow.holds Tryd.pinned (OpenSpec.ofChange fnExactTreeOfWrong)

/-- 'laws.FnExactTreeSame': WHATEVER THE INPUT: true; the input reads as it did. -/
def fnExactTreeSameSpec : ChangeSpec := { name := "fnExactTreeSame", fn := fun _ => fun
  | [d1, d2] => { results := [.lit (.bool true)], args := [d1, d2] }
  | _ => none }
def fnExactTreeSameRow : OpenClaim := { program := "ytlcjgppclclkoaadoor", sum := "0301cef418f6d82856493057b819c2e6cf5c215007856af58ca32dcf70d686dc", func := "loop.example/partialcharts/laws.FnExactTreeSame", spec := "fnExactTreeSame", inPlace := ["internal/bytealg.IndexByteString", "internal/bytealg.IndexString", "internal/bytealg.abigen_runtime_cmpstring"], unfollowed := true, recurses := true, named := ["unicode/utf8.first", "unicode/utf8.acceptRanges", "internal/bytealg.MaxLen"], apart := false, laid := [("unicode/utf8.acceptRanges", laid_unicode_utf8_acceptRanges), ("unicode/utf8.first", laid_unicode_utf8_first)] }
def FnExactTreeSameSaid : Prop := fnExactTreeSameRow.holds Tryd.pinned (OpenSpec.ofChange fnExactTreeSameSpec)

/-- ITS FALSE NEIGHBOUR: 'it returns false'. Refute it at one input. -/
def fnExactTreeSameWrong : ChangeSpec := { name := "fnExactTreeSame", fn := fun _ => fun
  | [d1, d2] => { results := [.lit (.bool false)], args := [d1, d2] }
  | _ => none }
def FnExactTreeSameWrongFalsely : Prop := fnExactTreeSameRow.holds Tryd.pinned (OpenSpec.ofChange fnExactTreeSameWrong)

/-- 'laws.FnExactTreeIn': WHATEVER THE INPUT: true; the input reads as it did. -/
def fnExactTreeInSpec : ChangeSpec := { name := "fnExactTreeIn", fn := fun _ => fun
  | [d] => { results := [.lit (.bool true)], args := [d] }
  | _ => none }
def fnExactTreeInRow : OpenClaim := { program := "ytlcjgppclclkoaadoor", sum := "0301cef418f6d82856493057b819c2e6cf5c215007856af58ca32dcf70d686dc", func := "loop.example/partialcharts/laws.FnExactTreeIn", spec := "fnExactTreeIn", inPlace := ["internal/bytealg.IndexByteString", "internal/bytealg.IndexString", "internal/bytealg.abigen_runtime_cmpstring"], unfollowed := true, recurses := true, named := ["unicode/utf8.first", "unicode/utf8.acceptRanges", "internal/bytealg.MaxLen"], apart := false, laid := [("unicode/utf8.acceptRanges", laid_unicode_utf8_acceptRanges), ("unicode/utf8.first", laid_unicode_utf8_first)] }
def FnExactTreeInSaid : Prop := fnExactTreeInRow.holds Tryd.pinned (OpenSpec.ofChange fnExactTreeInSpec)

/-- ITS FALSE NEIGHBOUR: 'it returns false'. Refute it at one input. -/
def fnExactTreeInWrong : ChangeSpec := { name := "fnExactTreeIn", fn := fun _ => fun
  | [d] => { results := [.lit (.bool false)], args := [d] }
  | _ => none }
def FnExactTreeInWrongFalsely : Prop := fnExactTreeInRow.holds Tryd.pinned (OpenSpec.ofChange fnExactTreeInWrong)

/-- 'laws.FnExactTreeIdem': WHATEVER THE INPUT: true; the input reads as it did. -/
def fnExactTreeIdemSpec : ChangeSpec := { name := "fnExactTreeIdem", fn := fun _ => fun
  | [d] => { results := [.lit (.bool true)], args := [d] }
  | _ => none }
def fnExactTreeIdemRow : OpenClaim := { program := "ytlcjgppclclkoaadoor", sum := "0301cef418f6d82856493057b819c2e6cf5c215007856af58ca32dcf70d686dc", func := "loop.example/partialcharts/laws.FnExactTreeIdem", spec := "fnExactTreeIdem", inPlace := ["internal/bytealg.IndexByteString", "internal/bytealg.IndexString", "internal/bytealg.abigen_runtime_cmpstring"], unfollowed := true, recurses := true, named := ["unicode/utf8.first", "unicode/utf8.acceptRanges", "internal/bytealg.MaxLen"], apart := false, laid := [("unicode/utf8.acceptRanges", laid_unicode_utf8_acceptRanges), ("unicode/utf8.first", laid_unicode_utf8_first)] }
def FnExactTreeIdemSaid : Prop := fnExactTreeIdemRow.holds Tryd.pinned (OpenSpec.ofChange fnExactTreeIdemSpec)

/-- ITS FALSE NEIGHBOUR: 'it returns false'. Refute it at one input. -/
def fnExactTreeIdemWrong : ChangeSpec := { name := "fnExactTreeIdem", fn := fun _ => fun
  | [d] => { results := [.lit (.bool false)], args := [d] }
  | _ => none }
def FnExactTreeIdemWrongFalsely : Prop := fnExactTreeIdemRow.holds Tryd.pinned (OpenSpec.ofChange fnExactTreeIdemWrong)

/-- 'laws.FnExactTreeBelow': WHATEVER THE INPUT: true; the input reads as it did. -/
def fnExactTreeBelowSpec : ChangeSpec := { name := "fnExactTreeBelow", fn := fun _ => fun
  | [d1, d2] => { results := [.lit (.bool true)], args := [d1, d2] }
  | _ => none }
def fnExactTreeBelowRow : OpenClaim := { program := "ytlcjgppclclkoaadoor", sum := "0301cef418f6d82856493057b819c2e6cf5c215007856af58ca32dcf70d686dc", func := "loop.example/partialcharts/laws.FnExactTreeBelow", spec := "fnExactTreeBelow", inPlace := ["internal/bytealg.IndexByteString", "internal/bytealg.IndexString", "internal/bytealg.abigen_runtime_cmpstring"], unfollowed := true, recurses := true, named := ["unicode/utf8.first", "unicode/utf8.acceptRanges", "internal/bytealg.MaxLen"], apart := false, laid := [("unicode/utf8.acceptRanges", laid_unicode_utf8_acceptRanges), ("unicode/utf8.first", laid_unicode_utf8_first)] }
def FnExactTreeBelowSaid : Prop := fnExactTreeBelowRow.holds Tryd.pinned (OpenSpec.ofChange fnExactTreeBelowSpec)

/-- ITS FALSE NEIGHBOUR: 'it returns false'. Refute it at one input. -/
def fnExactTreeBelowWrong : ChangeSpec := { name := "fnExactTreeBelow", fn := fun _ => fun
  | [d1, d2] => { results := [.lit (.bool false)], args := [d1, d2] }
  | _ => none }
def FnExactTreeBelowWrongFalsely : Prop := fnExactTreeBelowRow.holds Tryd.pinned (OpenSpec.ofChange fnExactTreeBelowWrong)

/-- 'laws.FnExactTreeWalk': WHATEVER THE INPUT: true; the input reads as it did. -/
def fnExactTreeWalkSpec : ChangeSpec := { name := "fnExactTreeWalk", fn := fun _ => fun
  | [d] => { results := [.lit (.bool true)], args := [d] }
  | _ => none }
def fnExactTreeWalkRow : OpenClaim := { program := "ytlcjgppclclkoaadoor", sum := "0301cef418f6d82856493057b819c2e6cf5c215007856af58ca32dcf70d686dc", func := "loop.example/partialcharts/laws.FnExactTreeWalk", spec := "fnExactTreeWalk", inPlace := ["internal/bytealg.IndexByteString", "internal/bytealg.IndexString", "internal/bytealg.abigen_runtime_cmpstring"], unfollowed := true, recurses := true, named := ["unicode/utf8.first", "unicode/utf8.acceptRanges", "internal/bytealg.MaxLen"], apart := false, laid := [("unicode/utf8.acceptRanges", laid_unicode_utf8_acceptRanges), ("unicode/utf8.first", laid_unicode_utf8_first)] }
def FnExactTreeWalkSaid : Prop := fnExactTreeWalkRow.holds Tryd.pinned (OpenSpec.ofChange fnExactTreeWalkSpec)

/-- ITS FALSE NEIGHBOUR: 'it returns false'. Refute it at one input. -/
def fnExactTreeWalkWrong : ChangeSpec := { name := "fnExactTreeWalk", fn := fun _ => fun
  | [d] => { results := [.lit (.bool false)], args := [d] }
  | _ => none }
def FnExactTreeWalkWrongFalsely : Prop := fnExactTreeWalkRow.holds Tryd.pinned (OpenSpec.ofChange fnExactTreeWalkWrong)

/-- 'laws.FnExactTreeWord': WHATEVER THE INPUT: true; the input reads as it did. -/
def fnExactTreeWordSpec : ChangeSpec := { name := "fnExactTreeWord", fn := fun _ => fun
  | [d] => { results := [.lit (.bool true)], args := [d] }
  | _ => none }
def fnExactTreeWordRow : OpenClaim := { program := "ytlcjgppclclkoaadoor", sum := "0301cef418f6d82856493057b819c2e6cf5c215007856af58ca32dcf70d686dc", func := "loop.example/partialcharts/laws.FnExactTreeWord", spec := "fnExactTreeWord", inPlace := ["internal/bytealg.IndexByteString", "internal/bytealg.IndexString", "internal/bytealg.abigen_runtime_cmpstring"], unfollowed := true, recurses := true, named := ["unicode/utf8.first", "unicode/utf8.acceptRanges", "internal/bytealg.MaxLen"], apart := false, laid := [("unicode/utf8.acceptRanges", laid_unicode_utf8_acceptRanges), ("unicode/utf8.first", laid_unicode_utf8_first)] }
def FnExactTreeWordSaid : Prop := fnExactTreeWordRow.holds Tryd.pinned (OpenSpec.ofChange fnExactTreeWordSpec)

/-- ITS FALSE NEIGHBOUR: 'it returns false'. Refute it at one input. -/
def fnExactTreeWordWrong : ChangeSpec := { name := "fnExactTreeWord", fn := fun _ => fun
  | [d] => { results := [.lit (.bool false)], args := [d] }
  | _ => none }
def FnExactTreeWordWrongFalsely : Prop := fnExactTreeWordRow.holds Tryd.pinned (OpenSpec.ofChange fnExactTreeWordWrong)

/-- 'laws.FnExactTreeTimes': WHATEVER THE INPUT: true; the input reads as it did. -/
def fnExactTreeTimesSpec : ChangeSpec := { name := "fnExactTreeTimes", fn := fun _ => fun
  | [d1, d2] => { results := [.lit (.bool true)], args := [d1, d2] }
  | _ => none }
def fnExactTreeTimesRow : OpenClaim := { program := "ytlcjgppclclkoaadoor", sum := "0301cef418f6d82856493057b819c2e6cf5c215007856af58ca32dcf70d686dc", func := "loop.example/partialcharts/laws.FnExactTreeTimes", spec := "fnExactTreeTimes", inPlace := ["internal/bytealg.IndexByteString", "internal/bytealg.IndexString", "internal/bytealg.abigen_runtime_cmpstring"], unfollowed := true, recurses := true, named := ["unicode/utf8.first", "unicode/utf8.acceptRanges", "internal/bytealg.MaxLen"], apart := false, laid := [("unicode/utf8.acceptRanges", laid_unicode_utf8_acceptRanges), ("unicode/utf8.first", laid_unicode_utf8_first)] }
def FnExactTreeTimesSaid : Prop := fnExactTreeTimesRow.holds Tryd.pinned (OpenSpec.ofChange fnExactTreeTimesSpec)

/-- ITS FALSE NEIGHBOUR: 'it returns false'. Refute it at one input. -/
def fnExactTreeTimesWrong : ChangeSpec := { name := "fnExactTreeTimes", fn := fun _ => fun
  | [d1, d2] => { results := [.lit (.bool false)], args := [d1, d2] }
  | _ => none }
def FnExactTreeTimesWrongFalsely : Prop := fnExactTreeTimesRow.holds Tryd.pinned (OpenSpec.ofChange fnExactTreeTimesWrong)

/-- 'laws.FnExactTreeTurned': WHATEVER THE INPUT: true; the input reads as it did. -/
def fnExactTreeTurnedSpec : ChangeSpec := { name := "fnExactTreeTurned", fn := fun _ => fun
  | [d] => { results := [.lit (.bool true)], args := [d] }
  | _ => none }
def fnExactTreeTurnedRow : OpenClaim := { program := "ytlcjgppclclkoaadoor", sum := "0301cef418f6d82856493057b819c2e6cf5c215007856af58ca32dcf70d686dc", func := "loop.example/partialcharts/laws.FnExactTreeTurned", spec := "fnExactTreeTurned", inPlace := ["internal/bytealg.IndexByteString", "internal/bytealg.IndexString", "internal/bytealg.abigen_runtime_cmpstring"], unfollowed := true, recurses := true, named := ["unicode/utf8.first", "unicode/utf8.acceptRanges", "internal/bytealg.MaxLen"], apart := false, laid := [("unicode/utf8.acceptRanges", laid_unicode_utf8_acceptRanges), ("unicode/utf8.first", laid_unicode_utf8_first)] }
def FnExactTreeTurnedSaid : Prop := fnExactTreeTurnedRow.holds Tryd.pinned (OpenSpec.ofChange fnExactTreeTurnedSpec)

/-- ITS FALSE NEIGHBOUR: 'it returns false'. Refute it at one input. -/
def fnExactTreeTurnedWrong : ChangeSpec := { name := "fnExactTreeTurned", fn := fun _ => fun
  | [d] => { results := [.lit (.bool false)], args := [d] }
  | _ => none }
def FnExactTreeTurnedWrongFalsely : Prop := fnExactTreeTurnedRow.holds Tryd.pinned (OpenSpec.ofChange fnExactTreeTurnedWrong)

/- THE SECOND FORM. 'bulk': how many values and letters a reading holds, each counted each time it is reached (what is shared counts as often as it is met; a slice's spare places count too). A statement '..UptoSaid' is the law's where the arguments, and the package variables that the reading takes, are together of bulk at most 1048576: NARROWER than '..Said'. Prove '..Said' where nothing that the law and all that it calls make is longer than what came in: it says more and counts as full. Else prove '..UptoSaid'. A law counts once. -/
mutual
def uptoBulk {H : Type} : DataW H → Nat
  | .lit (.string bytes) => bytes.length + 1
  | .lit _ => 1
  | .nil => 1
  | .ptr d => uptoBulk d + 1
  | .slice elems spare => uptoBulkAll elems + uptoBulkAll spare + 1
  | .agg parts => uptoBulkAll parts + 1
  | .iface _ d => uptoBulk d + 1
  | .map entries => uptoBulkEntries entries + 1
  | .held _ => 1
def uptoBulkAll {H : Type} : List (DataW H) → Nat
  | [] => 0
  | d :: r => uptoBulk d + uptoBulkAll r
def uptoBulkEntries {H : Type} : List (Lit × DataW H) → Nat
  | [] => 0
  | x :: r => uptoBulkEntry x + uptoBulkEntries r
def uptoBulkEntry {H : Type} : Lit × DataW H → Nat
  | (.string bytes, d) => bytes.length + uptoBulk d + 1
  | (_, d) => uptoBulk d + 1
 end
def uptoSmall : (H : Type) → List (DataW H) → Bool := fun _ ds => decide (uptoBulkAll ds ≤ 1048576)
def OpenSpec.upto (s : _root_.Go.ChangeSpec) : _root_.Go.OpenSpec := { _root_.Go.OpenSpec.ofChange s with cond := some uptoSmall }

/-- 'laws.FnReduced', WHERE WHAT IT READS IS OF BULK AT MOST 1048576: true; the input reads as it did. -/
def fnReducedUptoRow : OpenClaim := { program := "ytlcjgppclclkoaadoor", sum := "0301cef418f6d82856493057b819c2e6cf5c215007856af58ca32dcf70d686dc", func := "loop.example/partialcharts/laws.FnReduced", spec := "fnReduced", inPlace := ["internal/bytealg.IndexByteString", "internal/bytealg.IndexString", "internal/bytealg.abigen_runtime_cmpstring"], unfollowed := true, recurses := true, named := ["unicode/utf8.first", "unicode/utf8.acceptRanges", "internal/bytealg.MaxLen"], apart := false, laid := [("unicode/utf8.acceptRanges", laid_unicode_utf8_acceptRanges), ("unicode/utf8.first", laid_unicode_utf8_first)], narrowed := true }
def FnReducedUptoSaid : Prop := fnReducedUptoRow.holds Tryd.pinned (OpenSpec.upto fnReducedSpec)

/-- 'laws.FnExactTreeOf', WHERE WHAT IT READS IS OF BULK AT MOST 1048576: true; the input reads as it did. -/
def fnExactTreeOfUptoRow : OpenClaim := { program := "ytlcjgppclclkoaadoor", sum := "0301cef418f6d82856493057b819c2e6cf5c215007856af58ca32dcf70d686dc", func := "loop.example/partialcharts/laws.FnExactTreeOf", spec := "fnExactTreeOf", inPlace := ["internal/bytealg.IndexByteString", "internal/bytealg.IndexString", "internal/bytealg.abigen_runtime_cmpstring"], unfollowed := true, recurses := true, named := ["unicode/utf8.first", "unicode/utf8.acceptRanges", "internal/bytealg.MaxLen"], apart := false, laid := [("unicode/utf8.acceptRanges", laid_unicode_utf8_acceptRanges), ("unicode/utf8.first", laid_unicode_utf8_first)], narrowed := true }
def FnExactTreeOfUptoSaid : Prop := fnExactTreeOfUptoRow.holds Tryd.pinned (OpenSpec.upto fnExactTreeOfSpec)

/-- 'laws.FnExactTreeSame', WHERE WHAT IT READS IS OF BULK AT MOST 1048576: true; the input reads as it did. -/
def fnExactTreeSameUptoRow : OpenClaim := { program := "ytlcjgppclclkoaadoor", sum := "0301cef418f6d82856493057b819c2e6cf5c215007856af58ca32dcf70d686dc", func := "loop.example/partialcharts/laws.FnExactTreeSame", spec := "fnExactTreeSame", inPlace := ["internal/bytealg.IndexByteString", "internal/bytealg.IndexString", "internal/bytealg.abigen_runtime_cmpstring"], unfollowed := true, recurses := true, named := ["unicode/utf8.first", "unicode/utf8.acceptRanges", "internal/bytealg.MaxLen"], apart := false, laid := [("unicode/utf8.acceptRanges", laid_unicode_utf8_acceptRanges), ("unicode/utf8.first", laid_unicode_utf8_first)], narrowed := true }
def FnExactTreeSameUptoSaid : Prop := fnExactTreeSameUptoRow.holds Tryd.pinned (OpenSpec.upto fnExactTreeSameSpec)

/-- 'laws.FnExactTreeIn', WHERE WHAT IT READS IS OF BULK AT MOST 1048576: true; the input reads as it did. -/
def fnExactTreeInUptoRow : OpenClaim := { program := "ytlcjgppclclkoaadoor", sum := "0301cef418f6d82856493057b819c2e6cf5c215007856af58ca32dcf70d686dc", func := "loop.example/partialcharts/laws.FnExactTreeIn", spec := "fnExactTreeIn", inPlace := ["internal/bytealg.IndexByteString", "internal/bytealg.IndexString", "internal/bytealg.abigen_runtime_cmpstring"], unfollowed := true, recurses := true, named := ["unicode/utf8.first", "unicode/utf8.acceptRanges", "internal/bytealg.MaxLen"], apart := false, laid := [("unicode/utf8.acceptRanges", laid_unicode_utf8_acceptRanges), ("unicode/utf8.first", laid_unicode_utf8_first)], narrowed := true }
def FnExactTreeInUptoSaid : Prop := fnExactTreeInUptoRow.holds Tryd.pinned (OpenSpec.upto fnExactTreeInSpec)

/-- 'laws.FnExactTreeIdem', WHERE WHAT IT READS IS OF BULK AT MOST 1048576: true; the input reads as it did. -/
def fnExactTreeIdemUptoRow : OpenClaim := { program := "ytlcjgppclclkoaadoor", sum := "0301cef418f6d82856493057b819c2e6cf5c215007856af58ca32dcf70d686dc", func := "loop.example/partialcharts/laws.FnExactTreeIdem", spec := "fnExactTreeIdem", inPlace := ["internal/bytealg.IndexByteString", "internal/bytealg.IndexString", "internal/bytealg.abigen_runtime_cmpstring"], unfollowed := true, recurses := true, named := ["unicode/utf8.first", "unicode/utf8.acceptRanges", "internal/bytealg.MaxLen"], apart := false, laid := [("unicode/utf8.acceptRanges", laid_unicode_utf8_acceptRanges), ("unicode/utf8.first", laid_unicode_utf8_first)], narrowed := true }
def FnExactTreeIdemUptoSaid : Prop := fnExactTreeIdemUptoRow.holds Tryd.pinned (OpenSpec.upto fnExactTreeIdemSpec)

/-- 'laws.FnExactTreeBelow', WHERE WHAT IT READS IS OF BULK AT MOST 1048576: true; the input reads as it did. -/
def fnExactTreeBelowUptoRow : OpenClaim := { program := "ytlcjgppclclkoaadoor", sum := "0301cef418f6d82856493057b819c2e6cf5c215007856af58ca32dcf70d686dc", func := "loop.example/partialcharts/laws.FnExactTreeBelow", spec := "fnExactTreeBelow", inPlace := ["internal/bytealg.IndexByteString", "internal/bytealg.IndexString", "internal/bytealg.abigen_runtime_cmpstring"], unfollowed := true, recurses := true, named := ["unicode/utf8.first", "unicode/utf8.acceptRanges", "internal/bytealg.MaxLen"], apart := false, laid := [("unicode/utf8.acceptRanges", laid_unicode_utf8_acceptRanges), ("unicode/utf8.first", laid_unicode_utf8_first)], narrowed := true }
def FnExactTreeBelowUptoSaid : Prop := fnExactTreeBelowUptoRow.holds Tryd.pinned (OpenSpec.upto fnExactTreeBelowSpec)

/-- 'laws.FnExactTreeWalk', WHERE WHAT IT READS IS OF BULK AT MOST 1048576: true; the input reads as it did. -/
def fnExactTreeWalkUptoRow : OpenClaim := { program := "ytlcjgppclclkoaadoor", sum := "0301cef418f6d82856493057b819c2e6cf5c215007856af58ca32dcf70d686dc", func := "loop.example/partialcharts/laws.FnExactTreeWalk", spec := "fnExactTreeWalk", inPlace := ["internal/bytealg.IndexByteString", "internal/bytealg.IndexString", "internal/bytealg.abigen_runtime_cmpstring"], unfollowed := true, recurses := true, named := ["unicode/utf8.first", "unicode/utf8.acceptRanges", "internal/bytealg.MaxLen"], apart := false, laid := [("unicode/utf8.acceptRanges", laid_unicode_utf8_acceptRanges), ("unicode/utf8.first", laid_unicode_utf8_first)], narrowed := true }
def FnExactTreeWalkUptoSaid : Prop := fnExactTreeWalkUptoRow.holds Tryd.pinned (OpenSpec.upto fnExactTreeWalkSpec)

/-- 'laws.FnExactTreeWord', WHERE WHAT IT READS IS OF BULK AT MOST 1048576: true; the input reads as it did. -/
def fnExactTreeWordUptoRow : OpenClaim := { program := "ytlcjgppclclkoaadoor", sum := "0301cef418f6d82856493057b819c2e6cf5c215007856af58ca32dcf70d686dc", func := "loop.example/partialcharts/laws.FnExactTreeWord", spec := "fnExactTreeWord", inPlace := ["internal/bytealg.IndexByteString", "internal/bytealg.IndexString", "internal/bytealg.abigen_runtime_cmpstring"], unfollowed := true, recurses := true, named := ["unicode/utf8.first", "unicode/utf8.acceptRanges", "internal/bytealg.MaxLen"], apart := false, laid := [("unicode/utf8.acceptRanges", laid_unicode_utf8_acceptRanges), ("unicode/utf8.first", laid_unicode_utf8_first)], narrowed := true }
def FnExactTreeWordUptoSaid : Prop := fnExactTreeWordUptoRow.holds Tryd.pinned (OpenSpec.upto fnExactTreeWordSpec)

/-- 'laws.FnExactTreeTimes', WHERE WHAT IT READS IS OF BULK AT MOST 1048576: true; the input reads as it did. -/
def fnExactTreeTimesUptoRow : OpenClaim := { program := "ytlcjgppclclkoaadoor", sum := "0301cef418f6d82856493057b819c2e6cf5c215007856af58ca32dcf70d686dc", func := "loop.example/partialcharts/laws.FnExactTreeTimes", spec := "fnExactTreeTimes", inPlace := ["internal/bytealg.IndexByteString", "internal/bytealg.IndexString", "internal/bytealg.abigen_runtime_cmpstring"], unfollowed := true, recurses := true, named := ["unicode/utf8.first", "unicode/utf8.acceptRanges", "internal/bytealg.MaxLen"], apart := false, laid := [("unicode/utf8.acceptRanges", laid_unicode_utf8_acceptRanges), ("unicode/utf8.first", laid_unicode_utf8_first)], narrowed := true }
def FnExactTreeTimesUptoSaid : Prop := fnExactTreeTimesUptoRow.holds Tryd.pinned (OpenSpec.upto fnExactTreeTimesSpec)

/-- 'laws.FnExactTreeTurned', WHERE WHAT IT READS IS OF BULK AT MOST 1048576: true; the input reads as it did. -/
def fnExactTreeTurnedUptoRow : OpenClaim := { program := "ytlcjgppclclkoaadoor", sum := "0301cef418f6d82856493057b819c2e6cf5c215007856af58ca32dcf70d686dc", func := "loop.example/partialcharts/laws.FnExactTreeTurned", spec := "fnExactTreeTurned", inPlace := ["internal/bytealg.IndexByteString", "internal/bytealg.IndexString", "internal/bytealg.abigen_runtime_cmpstring"], unfollowed := true, recurses := true, named := ["unicode/utf8.first", "unicode/utf8.acceptRanges", "internal/bytealg.MaxLen"], apart := false, laid := [("unicode/utf8.acceptRanges", laid_unicode_utf8_acceptRanges), ("unicode/utf8.first", laid_unicode_utf8_first)], narrowed := true }
def FnExactTreeTurnedUptoSaid : Prop := fnExactTreeTurnedUptoRow.holds Tryd.pinned (OpenSpec.upto fnExactTreeTurnedSpec)

end Rows
end Go.Proofs.YtlcjgppclclkoaaDoor
