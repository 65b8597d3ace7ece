/-
  NARROWER THAN 'FOR EVERY INPUT', by the rows' own cells (each row's printed sentence says how): FnTree: laid · FnTreeOf: laid · FnTreeTimes: laid · FnTreeWords: laid · FnTreeTurned: laid · FnTreeIdem: laid · FnTreeBelow: laid · FnTreeSame: laid · FnTreeWord: laid · FnWalk: laid.
  DERIVED. THE GIVEN ROWS OF THIS SEAT. 10 by the template 'for every input the law returns true; each argument reads behind the call as it read before'; 0 by the template 'total and deterministic' (their statements: YtlfbocmcbkcfhaaDoorTotals.lean).
  GIVEN WITH THE SEED: the statements are not yours to turn. If you find one false, say at which input.
  Laid BY PROGRAM, IN A SANDBOX (cutbox-rows.mjs): the forced cells as the released guide's own fill.sh prints them over the translation 14d1edc84bdf57c6… (all of the seat's roots in one cut). By AI agents, Wed Nov 11 2026. No macro, syntax, notation, axiom, sorry.
-/
import Derived.Test.YtlfbocmcbkcfhaaDoorChecked
import GoSem.PinnedTables
import GoSem.Claim
import GoSem.ClaimJoined
import GoSem.ClaimMapViews
import Derived.JoinedTies
import Derived.KernelRfl
namespace Go.Proofs.YtlfbocmcbkcfhaaDoor
/- THE CELL 'sum', in the pinned program and in every row, IS THE sha256 OF THE DUMP (.gsa) THAT YtlfbocmcbkcfhaaDoorProg.lean LOADS. Nothing in Lean hashes anything: it is a label: what it is worth is what the hold of that sum in a sandbox is worth. -/
noncomputable def Tryd.pinned : Pinned := { name := "ytlfbocmcbkcfhaadoor", sum := "14d1edc84bdf57c6baaf50c75068950171f0a9a3886547ee9d1c991fd8a95926", checked := Tryd.checked }
namespace Rows
def none {H : Type} : Left H := { results := [], args := [] }

/- WHAT THE LISTED PACKAGE-LEVEL VARIABLES READ AS WHEN THE CALL BEGINS. Each datum BY PROGRAM (the guide's laid-datum.mjs) off the statement by which the dump's own 'gosem.cut.vars' lays the variable. In a bare row this is a premise. The card (YtlfbocmcbkcfhaaDoorCards.lean) ties it to the program's text. -/
def laid_unicode_utf8_acceptRanges {H : Type} : DataW H := .agg [.agg [.lit (.int .u8 128), .lit (.int .u8 191)], .agg [.lit (.int .u8 160), .lit (.int .u8 191)], .agg [.lit (.int .u8 128), .lit (.int .u8 159)], .agg [.lit (.int .u8 144), .lit (.int .u8 191)], .agg [.lit (.int .u8 128), .lit (.int .u8 143)], .agg [.lit (.int .u8 0), .lit (.int .u8 0)], .agg [.lit (.int .u8 0), .lit (.int .u8 0)], .agg [.lit (.int .u8 0), .lit (.int .u8 0)], .agg [.lit (.int .u8 0), .lit (.int .u8 0)], .agg [.lit (.int .u8 0), .lit (.int .u8 0)], .agg [.lit (.int .u8 0), .lit (.int .u8 0)], .agg [.lit (.int .u8 0), .lit (.int .u8 0)], .agg [.lit (.int .u8 0), .lit (.int .u8 0)], .agg [.lit (.int .u8 0), .lit (.int .u8 0)], .agg [.lit (.int .u8 0), .lit (.int .u8 0)], .agg [.lit (.int .u8 0), .lit (.int .u8 0)]]
/-- One of Go's own tables, pinned by name: the form's constant. -/
def laid_unicode_utf8_first : DataW Unit := Go.Pinned.utf8First

/-- 'laws.FnTree': WHATEVER THE INPUT: true; the input reads as it did. -/
def fnTreeSpec : ChangeSpec := { name := "fnTree", fn := fun _ => fun
  | [d] => { results := [.lit (.bool true)], args := [d] }
  | _ => none }
def fnTreeRow : OpenClaim := { program := "ytlfbocmcbkcfhaadoor", sum := "14d1edc84bdf57c6baaf50c75068950171f0a9a3886547ee9d1c991fd8a95926", func := "loop.example/partialcharts/laws.FnTree", spec := "fnTree", inPlace := ["internal/bytealg.IndexByteString", "internal/bytealg.IndexString", "internal/bytealg.abigen_runtime_cmpstring"], unfollowed := true, recurses := true, named := ["unicode/utf8.first", "unicode/utf8.acceptRanges", "internal/bytealg.MaxLen"], apart := false, laid := [("unicode/utf8.acceptRanges", laid_unicode_utf8_acceptRanges), ("unicode/utf8.first", laid_unicode_utf8_first)] }
def FnTreeSaid : Prop := fnTreeRow.holds Tryd.pinned (OpenSpec.ofChange fnTreeSpec)

/-- ITS FALSE NEIGHBOUR: 'it returns false'. Refute it at one input. -/
def fnTreeWrong : ChangeSpec := { name := "fnTree", fn := fun _ => fun
  | [d] => { results := [.lit (.bool false)], args := [d] }
  | _ => none }
def FnTreeWrongFalsely : Prop := fnTreeRow.holds Tryd.pinned (OpenSpec.ofChange fnTreeWrong)

/-- 'laws.FnTreeOf': WHATEVER THE INPUT: true; the input reads as it did. -/
def fnTreeOfSpec : ChangeSpec := { name := "fnTreeOf", fn := fun _ => fun
  | [d] => { results := [.lit (.bool true)], args := [d] }
  | _ => none }
def fnTreeOfRow : OpenClaim := { program := "ytlfbocmcbkcfhaadoor", sum := "14d1edc84bdf57c6baaf50c75068950171f0a9a3886547ee9d1c991fd8a95926", func := "loop.example/partialcharts/laws.FnTreeOf", spec := "fnTreeOf", inPlace := ["internal/bytealg.IndexByteString", "internal/bytealg.IndexString", "internal/bytealg.abigen_runtime_cmpstring"], unfollowed := true, recurses := true, named := ["unicode/utf8.first", "unicode/utf8.acceptRanges", "internal/bytealg.MaxLen"], apart := false, laid := [("unicode/utf8.acceptRanges", laid_unicode_utf8_acceptRanges), ("unicode/utf8.first", laid_unicode_utf8_first)] }
def FnTreeOfSaid : Prop := fnTreeOfRow.holds Tryd.pinned (OpenSpec.ofChange fnTreeOfSpec)

/-- ITS FALSE NEIGHBOUR: 'it returns false'. Refute it at one input. -/
def fnTreeOfWrong : ChangeSpec := { name := "fnTreeOf", fn := fun _ => fun
  | [d] => { results := [.lit (.bool false)], args := [d] }
  | _ => none }
def FnTreeOfWrongFalsely : Prop := fnTreeOfRow.holds Tryd.pinned (OpenSpec.ofChange fnTreeOfWrong)

/-- 'laws.FnTreeTimes': WHATEVER THE INPUT: true; the input reads as it did. -/
def fnTreeTimesSpec : ChangeSpec := { name := "fnTreeTimes", fn := fun _ => fun
  | [d] => { results := [.lit (.bool true)], args := [d] }
  | _ => none }
def fnTreeTimesRow : OpenClaim := { program := "ytlfbocmcbkcfhaadoor", sum := "14d1edc84bdf57c6baaf50c75068950171f0a9a3886547ee9d1c991fd8a95926", func := "loop.example/partialcharts/laws.FnTreeTimes", spec := "fnTreeTimes", inPlace := ["internal/bytealg.IndexByteString", "internal/bytealg.IndexString", "internal/bytealg.abigen_runtime_cmpstring"], unfollowed := true, recurses := true, named := ["unicode/utf8.first", "unicode/utf8.acceptRanges", "internal/bytealg.MaxLen"], apart := false, laid := [("unicode/utf8.acceptRanges", laid_unicode_utf8_acceptRanges), ("unicode/utf8.first", laid_unicode_utf8_first)] }
def FnTreeTimesSaid : Prop := fnTreeTimesRow.holds Tryd.pinned (OpenSpec.ofChange fnTreeTimesSpec)

/-- ITS FALSE NEIGHBOUR: 'it returns false'. Refute it at one input. -/
def fnTreeTimesWrong : ChangeSpec := { name := "fnTreeTimes", fn := fun _ => fun
  | [d] => { results := [.lit (.bool false)], args := [d] }
  | _ => none }
def FnTreeTimesWrongFalsely : Prop := fnTreeTimesRow.holds Tryd.pinned (OpenSpec.ofChange fnTreeTimesWrong)

/-- 'laws.FnTreeWords': WHATEVER THE INPUT: true; the input reads as it did. -/
def fnTreeWordsSpec : ChangeSpec := { name := "fnTreeWords", fn := fun _ => fun
  | [d] => { results := [.lit (.bool true)], args := [d] }
  | _ => none }
def fnTreeWordsRow : OpenClaim := { program := "ytlfbocmcbkcfhaadoor", sum := "14d1edc84bdf57c6baaf50c75068950171f0a9a3886547ee9d1c991fd8a95926", func := "loop.example/partialcharts/laws.FnTreeWords", spec := "fnTreeWords", inPlace := ["internal/bytealg.IndexByteString", "internal/bytealg.IndexString", "internal/bytealg.abigen_runtime_cmpstring"], unfollowed := true, recurses := true, named := ["unicode/utf8.first", "unicode/utf8.acceptRanges", "internal/bytealg.MaxLen"], apart := false, laid := [("unicode/utf8.acceptRanges", laid_unicode_utf8_acceptRanges), ("unicode/utf8.first", laid_unicode_utf8_first)] }
def FnTreeWordsSaid : Prop := fnTreeWordsRow.holds Tryd.pinned (OpenSpec.ofChange fnTreeWordsSpec)

/-- ITS FALSE NEIGHBOUR: 'it returns false'. Refute it at one input. -/
def fnTreeWordsWrong : ChangeSpec := { name := "fnTreeWords", fn := fun _ => fun
  | [d] => { results := [.lit (.bool false)], args := [d] }
  | _ => none }
def FnTreeWordsWrongFalsely : Prop := fnTreeWordsRow.holds Tryd.pinned (OpenSpec.ofChange fnTreeWordsWrong)

/-- 'laws.FnTreeTurned': WHATEVER THE INPUT: true; the input reads as it did. -/
def fnTreeTurnedSpec : ChangeSpec := { name := "fnTreeTurned", fn := fun _ => fun
  | [d] => { results := [.lit (.bool true)], args := [d] }
  | _ => none }
def fnTreeTurnedRow : OpenClaim := { program := "ytlfbocmcbkcfhaadoor", sum := "14d1edc84bdf57c6baaf50c75068950171f0a9a3886547ee9d1c991fd8a95926", func := "loop.example/partialcharts/laws.FnTreeTurned", spec := "fnTreeTurned", inPlace := ["internal/bytealg.IndexByteString", "internal/bytealg.IndexString", "internal/bytealg.abigen_runtime_cmpstring"], unfollowed := true, recurses := true, named := ["unicode/utf8.first", "unicode/utf8.acceptRanges", "internal/bytealg.MaxLen"], apart := false, laid := [("unicode/utf8.acceptRanges", laid_unicode_utf8_acceptRanges), ("unicode/utf8.first", laid_unicode_utf8_first)] }
def FnTreeTurnedSaid : Prop := fnTreeTurnedRow.holds Tryd.pinned (OpenSpec.ofChange fnTreeTurnedSpec)

/-- ITS FALSE NEIGHBOUR: 'it returns false'. Refute it at one input. -/
def fnTreeTurnedWrong : ChangeSpec := { name := "fnTreeTurned", fn := fun _ => fun
  | [d] => { results := [.lit (.bool false)], args := [d] }
  | _ => none }
def FnTreeTurnedWrongFalsely : Prop := fnTreeTurnedRow.holds Tryd.pinned (OpenSpec.ofChange fnTreeTurnedWrong)

/-- 'laws.FnTreeIdem': WHATEVER THE INPUT: true; the input reads as it did. -/
def fnTreeIdemSpec : ChangeSpec := { name := "fnTreeIdem", fn := fun _ => fun
  | [d] => { results := [.lit (.bool true)], args := [d] }
  | _ => none }
def fnTreeIdemRow : OpenClaim := { program := "ytlfbocmcbkcfhaadoor", sum := "14d1edc84bdf57c6baaf50c75068950171f0a9a3886547ee9d1c991fd8a95926", func := "loop.example/partialcharts/laws.FnTreeIdem", spec := "fnTreeIdem", inPlace := ["internal/bytealg.IndexByteString", "internal/bytealg.IndexString", "internal/bytealg.abigen_runtime_cmpstring"], unfollowed := true, recurses := true, named := ["unicode/utf8.first", "unicode/utf8.acceptRanges", "internal/bytealg.MaxLen"], apart := false, laid := [("unicode/utf8.acceptRanges", laid_unicode_utf8_acceptRanges), ("unicode/utf8.first", laid_unicode_utf8_first)] }
def FnTreeIdemSaid : Prop := fnTreeIdemRow.holds Tryd.pinned (OpenSpec.ofChange fnTreeIdemSpec)

/-- ITS FALSE NEIGHBOUR: 'it returns false'. Refute it at one input. -/
def fnTreeIdemWrong : ChangeSpec := { name := "fnTreeIdem", fn := fun _ => fun
  | [d] => { results := [.lit (.bool false)], args := [d] }
  | _ => none }
def FnTreeIdemWrongFalsely : Prop := fnTreeIdemRow.holds Tryd.pinned (OpenSpec.ofChange fnTreeIdemWrong)

/-- 'laws.FnTreeBelow': WHATEVER THE INPUT: true; the input reads as it did. -/
def fnTreeBelowSpec : ChangeSpec := { name := "fnTreeBelow", fn := fun _ => fun
  | [d] => { results := [.lit (.bool true)], args := [d] }
  | _ => none }
def fnTreeBelowRow : OpenClaim := { program := "ytlfbocmcbkcfhaadoor", sum := "14d1edc84bdf57c6baaf50c75068950171f0a9a3886547ee9d1c991fd8a95926", func := "loop.example/partialcharts/laws.FnTreeBelow", spec := "fnTreeBelow", inPlace := ["internal/bytealg.IndexByteString", "internal/bytealg.IndexString", "internal/bytealg.abigen_runtime_cmpstring"], unfollowed := true, recurses := true, named := ["unicode/utf8.first", "unicode/utf8.acceptRanges", "internal/bytealg.MaxLen"], apart := false, laid := [("unicode/utf8.acceptRanges", laid_unicode_utf8_acceptRanges), ("unicode/utf8.first", laid_unicode_utf8_first)] }
def FnTreeBelowSaid : Prop := fnTreeBelowRow.holds Tryd.pinned (OpenSpec.ofChange fnTreeBelowSpec)

/-- ITS FALSE NEIGHBOUR: 'it returns false'. Refute it at one input. -/
def fnTreeBelowWrong : ChangeSpec := { name := "fnTreeBelow", fn := fun _ => fun
  | [d] => { results := [.lit (.bool false)], args := [d] }
  | _ => none }
def FnTreeBelowWrongFalsely : Prop := fnTreeBelowRow.holds Tryd.pinned (OpenSpec.ofChange fnTreeBelowWrong)

/-- 'laws.FnTreeSame': WHATEVER THE INPUT: true; the input reads as it did. -/
def fnTreeSameSpec : ChangeSpec := { name := "fnTreeSame", fn := fun _ => fun
  | [d] => { results := [.lit (.bool true)], args := [d] }
  | _ => none }
def fnTreeSameRow : OpenClaim := { program := "ytlfbocmcbkcfhaadoor", sum := "14d1edc84bdf57c6baaf50c75068950171f0a9a3886547ee9d1c991fd8a95926", func := "loop.example/partialcharts/laws.FnTreeSame", spec := "fnTreeSame", inPlace := ["internal/bytealg.IndexByteString", "internal/bytealg.IndexString", "internal/bytealg.abigen_runtime_cmpstring"], unfollowed := true, recurses := true, named := ["unicode/utf8.first", "unicode/utf8.acceptRanges", "internal/bytealg.MaxLen"], apart := false, laid := [("unicode/utf8.acceptRanges", laid_unicode_utf8_acceptRanges), ("unicode/utf8.first", laid_unicode_utf8_first)] }
def FnTreeSameSaid : Prop := fnTreeSameRow.holds Tryd.pinned (OpenSpec.ofChange fnTreeSameSpec)

/-- ITS FALSE NEIGHBOUR: 'it returns false'. Refute it at one input. -/
def fnTreeSameWrong : ChangeSpec := { name := "fnTreeSame", fn := fun _ => fun
  | [d] => { results := [.lit (.bool false)], args := [d] }
  | _ => none }
def FnTreeSameWrongFalsely : Prop := fnTreeSameRow.holds Tryd.pinned (OpenSpec.ofChange fnTreeSameWrong)

/-- 'laws.FnTreeWord': WHATEVER THE INPUT: true; the input reads as it did. -/
def fnTreeWordSpec : ChangeSpec := { name := "fnTreeWord", fn := fun _ => fun
  | [d] => { results := [.lit (.bool true)], args := [d] }
  | _ => none }
def fnTreeWordRow : OpenClaim := { program := "ytlfbocmcbkcfhaadoor", sum := "14d1edc84bdf57c6baaf50c75068950171f0a9a3886547ee9d1c991fd8a95926", func := "loop.example/partialcharts/laws.FnTreeWord", spec := "fnTreeWord", inPlace := ["internal/bytealg.IndexByteString", "internal/bytealg.IndexString", "internal/bytealg.abigen_runtime_cmpstring"], unfollowed := true, recurses := true, named := ["unicode/utf8.first", "unicode/utf8.acceptRanges", "internal/bytealg.MaxLen"], apart := false, laid := [("unicode/utf8.acceptRanges", laid_unicode_utf8_acceptRanges), ("unicode/utf8.first", laid_unicode_utf8_first)] }
def FnTreeWordSaid : Prop := fnTreeWordRow.holds Tryd.pinned (OpenSpec.ofChange fnTreeWordSpec)

/-- ITS FALSE NEIGHBOUR: 'it returns false'. Refute it at one input. -/
def fnTreeWordWrong : ChangeSpec := { name := "fnTreeWord", fn := fun _ => fun
  | [d] => { results := [.lit (.bool false)], args := [d] }
  | _ => none }
def FnTreeWordWrongFalsely : Prop := fnTreeWordRow.holds Tryd.pinned (OpenSpec.ofChange fnTreeWordWrong)

/-- 'laws.FnWalk': WHATEVER THE INPUT: true; the input reads as it did. -/
def fnWalkSpec : ChangeSpec := { name := "fnWalk", fn := fun _ => fun
  | [d] => { results := [.lit (.bool true)], args := [d] }
  | _ => none }
def fnWalkRow : OpenClaim := { program := "ytlfbocmcbkcfhaadoor", sum := "14d1edc84bdf57c6baaf50c75068950171f0a9a3886547ee9d1c991fd8a95926", func := "loop.example/partialcharts/laws.FnWalk", spec := "fnWalk", inPlace := ["internal/bytealg.IndexByteString", "internal/bytealg.IndexString", "internal/bytealg.abigen_runtime_cmpstring"], unfollowed := true, recurses := true, named := ["unicode/utf8.first", "unicode/utf8.acceptRanges", "internal/bytealg.MaxLen"], apart := false, laid := [("unicode/utf8.acceptRanges", laid_unicode_utf8_acceptRanges), ("unicode/utf8.first", laid_unicode_utf8_first)] }
def FnWalkSaid : Prop := fnWalkRow.holds Tryd.pinned (OpenSpec.ofChange fnWalkSpec)

/-- ITS FALSE NEIGHBOUR: 'it returns false'. Refute it at one input. -/
def fnWalkWrong : ChangeSpec := { name := "fnWalk", fn := fun _ => fun
  | [d] => { results := [.lit (.bool false)], args := [d] }
  | _ => none }
def FnWalkWrongFalsely : Prop := fnWalkRow.holds Tryd.pinned (OpenSpec.ofChange fnWalkWrong)

/- THE SECOND FORM. 'bulk': how many values and letters a reading holds, each counted each time it is reached (what is shared counts as often as it is met; a slice's spare places count too). A statement '..UptoSaid' is the law's where the arguments, and the package variables that the reading takes, are together of bulk at most 1048576: NARROWER than '..Said'. Prove '..Said' where nothing that the law and all that it calls make is longer than what came in: it says more and counts as full. Else prove '..UptoSaid'. A law counts once. -/
mutual
def uptoBulk {H : Type} : DataW H → Nat
  | .lit (.string bytes) => bytes.length + 1
  | .lit _ => 1
  | .nil => 1
  | .ptr d => uptoBulk d + 1
  | .slice elems spare => uptoBulkAll elems + uptoBulkAll spare + 1
  | .agg parts => uptoBulkAll parts + 1
  | .iface _ d => uptoBulk d + 1
  | .map entries => uptoBulkEntries entries + 1
  | .held _ => 1
def uptoBulkAll {H : Type} : List (DataW H) → Nat
  | [] => 0
  | d :: r => uptoBulk d + uptoBulkAll r
def uptoBulkEntries {H : Type} : List (Lit × DataW H) → Nat
  | [] => 0
  | x :: r => uptoBulkEntry x + uptoBulkEntries r
def uptoBulkEntry {H : Type} : Lit × DataW H → Nat
  | (.string bytes, d) => bytes.length + uptoBulk d + 1
  | (_, d) => uptoBulk d + 1
 end
def uptoSmall : (H : Type) → List (DataW H) → Bool := fun _ ds => decide (uptoBulkAll ds ≤ 1048576)
def OpenSpec.upto (s : _root_.Go.ChangeSpec) : _root_.Go.OpenSpec := { _root_.Go.OpenSpec.ofChange s with cond := some uptoSmall }

/-- 'laws.FnTree', WHERE WHAT IT READS IS OF BULK AT MOST 1048576: true; the input reads as it did. -/
def fnTreeUptoRow : OpenClaim := { program := "ytlfbocmcbkcfhaadoor", sum := "14d1edc84bdf57c6baaf50c75068950171f0a9a3886547ee9d1c991fd8a95926", func := "loop.example/partialcharts/laws.FnTree", spec := "fnTree", inPlace := ["internal/bytealg.IndexByteString", "internal/bytealg.IndexString", "internal/bytealg.abigen_runtime_cmpstring"], unfollowed := true, recurses := true, named := ["unicode/utf8.first", "unicode/utf8.acceptRanges", "internal/bytealg.MaxLen"], apart := false, laid := [("unicode/utf8.acceptRanges", laid_unicode_utf8_acceptRanges), ("unicode/utf8.first", laid_unicode_utf8_first)], narrowed := true }
def FnTreeUptoSaid : Prop := fnTreeUptoRow.holds Tryd.pinned (OpenSpec.upto fnTreeSpec)

/-- 'laws.FnTreeOf', WHERE WHAT IT READS IS OF BULK AT MOST 1048576: true; the input reads as it did. -/
def fnTreeOfUptoRow : OpenClaim := { program := "ytlfbocmcbkcfhaadoor", sum := "14d1edc84bdf57c6baaf50c75068950171f0a9a3886547ee9d1c991fd8a95926", func := "loop.example/partialcharts/laws.FnTreeOf", spec := "fnTreeOf", inPlace := ["internal/bytealg.IndexByteString", "internal/bytealg.IndexString", "internal/bytealg.abigen_runtime_cmpstring"], unfollowed := true, recurses := true, named := ["unicode/utf8.first", "unicode/utf8.acceptRanges", "internal/bytealg.MaxLen"], apart := false, laid := [("unicode/utf8.acceptRanges", laid_unicode_utf8_acceptRanges), ("unicode/utf8.first", laid_unicode_utf8_first)], narrowed := true }
def FnTreeOfUptoSaid : Prop := fnTreeOfUptoRow.holds Tryd.pinned (OpenSpec.upto fnTreeOfSpec)

/-- 'laws.FnTreeTimes', WHERE WHAT IT READS IS OF BULK AT MOST 1048576: true; the input reads as it did. -/
def fnTreeTimesUptoRow : OpenClaim := { program := "ytlfbocmcbkcfhaadoor", sum := "14d1edc84bdf57c6baaf50c75068950171f0a9a3886547ee9d1c991fd8a95926", func := "loop.example/partialcharts/laws.FnTreeTimes", spec := "fnTreeTimes", inPlace := ["internal/bytealg.IndexByteString", "internal/bytealg.IndexString", "internal/bytealg.abigen_runtime_cmpstring"], unfollowed := true, recurses := true, named := ["unicode/utf8.first", "unicode/utf8.acceptRanges", "internal/bytealg.MaxLen"], apart := false, laid := [("unicode/utf8.acceptRanges", laid_unicode_utf8_acceptRanges), ("unicode/utf8.first", laid_unicode_utf8_first)], narrowed := true }
def FnTreeTimesUptoSaid : Prop := fnTreeTimesUptoRow.holds Tryd.pinned (OpenSpec.upto fnTreeTimesSpec)

/-- 'laws.FnTreeWords', WHERE WHAT IT READS IS OF BULK AT MOST 1048576: true; the input reads as it did. -/
def fnTreeWordsUptoRow : OpenClaim := { program := "ytlfbocmcbkcfhaadoor", sum := "14d1edc84bdf57c6baaf50c75068950171f0a9a3886547ee9d1c991fd8a95926", func := "loop.example/partialcharts/laws.FnTreeWords", spec := "fnTreeWords", inPlace := ["internal/bytealg.IndexByteString", "internal/bytealg.IndexString", "internal/bytealg.abigen_runtime_cmpstring"], unfollowed := true, recurses := true, named := ["unicode/utf8.first", "unicode/utf8.acceptRanges", "internal/bytealg.MaxLen"], apart := false, laid := [("unicode/utf8.acceptRanges", laid_unicode_utf8_acceptRanges), ("unicode/utf8.first", laid_unicode_utf8_first)], narrowed := true }
def FnTreeWordsUptoSaid : Prop := fnTreeWordsUptoRow.holds Tryd.pinned (OpenSpec.upto fnTreeWordsSpec)

/-- 'laws.FnTreeTurned', WHERE WHAT IT READS IS OF BULK AT MOST 1048576: true; the input reads as it did. -/
def fnTreeTurnedUptoRow : OpenClaim := { program := "ytlfbocmcbkcfhaadoor", sum := "14d1edc84bdf57c6baaf50c75068950171f0a9a3886547ee9d1c991fd8a95926", func := "loop.example/partialcharts/laws.FnTreeTurned", spec := "fnTreeTurned", inPlace := ["internal/bytealg.IndexByteString", "internal/bytealg.IndexString", "internal/bytealg.abigen_runtime_cmpstring"], unfollowed := true, recurses := true, named := ["unicode/utf8.first", "unicode/utf8.acceptRanges", "internal/bytealg.MaxLen"], apart := false, laid := [("unicode/utf8.acceptRanges", laid_unicode_utf8_acceptRanges), ("unicode/utf8.first", laid_unicode_utf8_first)], narrowed := true }
def FnTreeTurnedUptoSaid : Prop := fnTreeTurnedUptoRow.holds Tryd.pinned (OpenSpec.upto fnTreeTurnedSpec)

/-- 'laws.FnTreeIdem', WHERE WHAT IT READS IS OF BULK AT MOST 1048576: true; the input reads as it did. -/
def fnTreeIdemUptoRow : OpenClaim := { program := "ytlfbocmcbkcfhaadoor", sum := "14d1edc84bdf57c6baaf50c75068950171f0a9a3886547ee9d1c991fd8a95926", func := "loop.example/partialcharts/laws.FnTreeIdem", spec := "fnTreeIdem", inPlace := ["internal/bytealg.IndexByteString", "internal/bytealg.IndexString", "internal/bytealg.abigen_runtime_cmpstring"], unfollowed := true, recurses := true, named := ["unicode/utf8.first", "unicode/utf8.acceptRanges", "internal/bytealg.MaxLen"], apart := false, laid := [("unicode/utf8.acceptRanges", laid_unicode_utf8_acceptRanges), ("unicode/utf8.first", laid_unicode_utf8_first)], narrowed := true }
def FnTreeIdemUptoSaid : Prop := fnTreeIdemUptoRow.holds Tryd.pinned (OpenSpec.upto fnTreeIdemSpec)

/-- 'laws.FnTreeBelow', WHERE WHAT IT READS IS OF BULK AT MOST 1048576: true; the input reads as it did. -/
def fnTreeBelowUptoRow : OpenClaim := { program := "ytlfbocmcbkcfhaadoor", sum := "14d1edc84bdf57c6baaf50c75068950171f0a9a3886547ee9d1c991fd8a95926", func := "loop.example/partialcharts/laws.FnTreeBelow", spec := "fnTreeBelow", inPlace := ["internal/bytealg.IndexByteString", "internal/bytealg.IndexString", "internal/bytealg.abigen_runtime_cmpstring"], unfollowed := true, recurses := true, named := ["unicode/utf8.first", "unicode/utf8.acceptRanges", "internal/bytealg.MaxLen"], apart := false, laid := [("unicode/utf8.acceptRanges", laid_unicode_utf8_acceptRanges), ("unicode/utf8.first", laid_unicode_utf8_first)], narrowed := true }
def FnTreeBelowUptoSaid : Prop := fnTreeBelowUptoRow.holds Tryd.pinned (OpenSpec.upto fnTreeBelowSpec)

/-- 'laws.FnTreeSame', WHERE WHAT IT READS IS OF BULK AT MOST 1048576: true; the input reads as it did. -/
def fnTreeSameUptoRow : OpenClaim := { program := "ytlfbocmcbkcfhaadoor", sum := "14d1edc84bdf57c6baaf50c75068950171f0a9a3886547ee9d1c991fd8a95926", func := "loop.example/partialcharts/laws.FnTreeSame", spec := "fnTreeSame", inPlace := ["internal/bytealg.IndexByteString", "internal/bytealg.IndexString", "internal/bytealg.abigen_runtime_cmpstring"], unfollowed := true, recurses := true, named := ["unicode/utf8.first", "unicode/utf8.acceptRanges", "internal/bytealg.MaxLen"], apart := false, laid := [("unicode/utf8.acceptRanges", laid_unicode_utf8_acceptRanges), ("unicode/utf8.first", laid_unicode_utf8_first)], narrowed := true }
def FnTreeSameUptoSaid : Prop := fnTreeSameUptoRow.holds Tryd.pinned (OpenSpec.upto fnTreeSameSpec)

/-- 'laws.FnTreeWord', WHERE WHAT IT READS IS OF BULK AT MOST 1048576: true; the input reads as it did. -/
def fnTreeWordUptoRow : OpenClaim := { program := "ytlfbocmcbkcfhaadoor", sum := "14d1edc84bdf57c6baaf50c75068950171f0a9a3886547ee9d1c991fd8a95926", func := "loop.example/partialcharts/laws.FnTreeWord", spec := "fnTreeWord", inPlace := ["internal/bytealg.IndexByteString", "internal/bytealg.IndexString", "internal/bytealg.abigen_runtime_cmpstring"], unfollowed := true, recurses := true, named := ["unicode/utf8.first", "unicode/utf8.acceptRanges", "internal/bytealg.MaxLen"], apart := false, laid := [("unicode/utf8.acceptRanges", laid_unicode_utf8_acceptRanges), ("unicode/utf8.first", laid_unicode_utf8_first)], narrowed := true }
def FnTreeWordUptoSaid : Prop := fnTreeWordUptoRow.holds Tryd.pinned (OpenSpec.upto fnTreeWordSpec)

/-- 'laws.FnWalk', WHERE WHAT IT READS IS OF BULK AT MOST 1048576: true; the input reads as it did. -/
def fnWalkUptoRow : OpenClaim := { program := "ytlfbocmcbkcfhaadoor", sum := "14d1edc84bdf57c6baaf50c75068950171f0a9a3886547ee9d1c991fd8a95926", func := "loop.example/partialcharts/laws.FnWalk", spec := "fnWalk", inPlace := ["internal/bytealg.IndexByteString", "internal/bytealg.IndexString", "internal/bytealg.abigen_runtime_cmpstring"], unfollowed := true, recurses := true, named := ["unicode/utf8.first", "unicode/utf8.acceptRanges", "internal/bytealg.MaxLen"], apart := false, laid := [("unicode/utf8.acceptRanges", laid_unicode_utf8_acceptRanges), ("unicode/utf8.first", laid_unicode_utf8_first)], narrowed := true }
def FnWalkUptoSaid : Prop := fnWalkUptoRow.holds Tryd.pinned (OpenSpec.upto fnWalkSpec)

end Rows
end Go.Proofs.YtlfbocmcbkcfhaaDoor
