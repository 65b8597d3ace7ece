/-
  NARROWER THAN 'FOR EVERY INPUT', by the rows' own cells (each row's printed sentence says how): FnGermSame: laid · FnGermCount: laid · FnExactGermCount: laid · FnExactCongruenceGroup: laid · FnExactCongruenceLeast: laid · FnExactCongruenceSplit: laid · FnExactCongruenceSplits: laid · FnExactCongruenceKernel: laid · FnExactCongruenceSize: laid · FnExactCongruenceFiner: laid.
  DERIVED. THE GIVEN ROWS OF THIS SEAT. 10 by the template 'for every input the law returns true; each argument reads behind the call as it read before'; 0 by the template 'total and deterministic' (their statements: YtmknjifmmmnjjaaGreatDoorTotals.lean).
  GIVEN WITH THE SEED: the statements are not yours to turn. If you find one false, say at which input.
  Laid BY PROGRAM, IN A SANDBOX (cutbox-rows.mjs): the forced cells as the released guide's own fill.sh prints them over the translation 7dadd460ae50eeee… (all of the seat's roots in one cut). By AI agents, Wed Nov 11 2026. No macro, syntax, notation, axiom, sorry.
-/
import Derived.Test.YtmknjifmmmnjjaaGreatDoorChecked
import GoSem.Claim
import GoSem.ClaimJoined
import GoSem.ClaimMapViews
import Derived.JoinedTies
import Derived.KernelRfl
namespace Go.Proofs.YtmknjifmmmnjjaaGreatDoor
/- THE CELL 'sum', in the pinned program and in every row, IS THE sha256 OF THE DUMP (.gsa) THAT YtmknjifmmmnjjaaGreatDoorProg.lean LOADS. Nothing in Lean hashes anything: it is a label: what it is worth is what the hold of that sum in a sandbox is worth. -/
noncomputable def Tryz.pinned : Pinned := { name := "ytmknjifmmmnjjaagreatdoor", sum := "7dadd460ae50eeee5fc3ee39229d4ab5e61c1205697bf912efb4c3ef1a8916f1", checked := Tryz.checked }
namespace Rows
def none {H : Type} : Left H := { results := [], args := [] }

/- WHAT THE LISTED PACKAGE-LEVEL VARIABLES READ AS WHEN THE CALL BEGINS. Each datum BY PROGRAM (the guide's laid-datum.mjs) off the statement by which the dump's own 'gosem.cut.vars' lays the variable. In a bare row this is a premise. The card (YtmknjifmmmnjjaaGreatDoorCards.lean) ties it to the program's text. -/
def laid_errors_errorType {H : Type} : DataW H := .iface "internal/reflectlite.rtype" (.agg [.ptr (.lit (.string [101, 114, 114, 111, 114]))])

/-- 'laws.FnGermSame': WHATEVER THE INPUT: true; the input reads as it did. -/
def fnGermSameSpec : ChangeSpec := { name := "fnGermSame", fn := fun _ => fun
  | [d] => { results := [.lit (.bool true)], args := [d] }
  | _ => none }
def fnGermSameRow : OpenClaim := { program := "ytmknjifmmmnjjaagreatdoor", sum := "7dadd460ae50eeee5fc3ee39229d4ab5e61c1205697bf912efb4c3ef1a8916f1", func := "loop.example/partialcharts/laws.FnGermSame", spec := "fnGermSame", inPlace := ["internal/reflectlite.ValueOf", "(internal/reflectlite.Value).Type", "(internal/reflectlite.Value).IsNil", "internal/reflectlite.TypeOf", "(internal/reflectlite.Value).Elem", "(internal/reflectlite.Value).Set"], unfollowed := true, recurses := true, named := ["errors.errorType"], plainKeys := false, leaving := true, apart := false, laid := [("errors.errorType", laid_errors_errorType)] }
def FnGermSameSaid : Prop := fnGermSameRow.holds Tryz.pinned (OpenSpec.ofChange fnGermSameSpec)

/-- ITS FALSE NEIGHBOUR: 'it returns false'. Refute it at one input. -/
def fnGermSameWrong : ChangeSpec := { name := "fnGermSame", fn := fun _ => fun
  | [d] => { results := [.lit (.bool false)], args := [d] }
  | _ => none }
def FnGermSameWrongFalsely : Prop := fnGermSameRow.holds Tryz.pinned (OpenSpec.ofChange fnGermSameWrong)

/-- 'laws.FnGermCount': WHATEVER THE INPUT: true; the input reads as it did. -/
def fnGermCountSpec : ChangeSpec := { name := "fnGermCount", fn := fun _ => fun
  | [d] => { results := [.lit (.bool true)], args := [d] }
  | _ => none }
def fnGermCountRow : OpenClaim := { program := "ytmknjifmmmnjjaagreatdoor", sum := "7dadd460ae50eeee5fc3ee39229d4ab5e61c1205697bf912efb4c3ef1a8916f1", func := "loop.example/partialcharts/laws.FnGermCount", spec := "fnGermCount", inPlace := ["internal/reflectlite.ValueOf", "(internal/reflectlite.Value).Type", "(internal/reflectlite.Value).IsNil", "internal/reflectlite.TypeOf", "(internal/reflectlite.Value).Elem", "(internal/reflectlite.Value).Set", "(*sync.WaitGroup).Add", "internal/race.ReleaseMerge", "internal/race.Disable", "internal/race.Enable", "internal/synctest.IsInBubble", "internal/synctest.Associate[sync.WaitGroup]", "sync.fatal", "sync/atomic.OrUint64", "sync/atomic.AddUint64", "internal/race.Read", "sync/atomic.LoadUint64", "sync/atomic.StoreUint64", "internal/synctest.Disassociate[sync.WaitGroup]", "sync.runtime_Semrelease", "(*sync.WaitGroup).Done", "(*sync.WaitGroup).Wait", "internal/race.Acquire", "internal/synctest.IsAssociated[sync.WaitGroup]", "sync/atomic.CompareAndSwapUint64", "internal/race.Write", "sync.runtime_SemacquireWaitGroup"], unfollowed := true, recurses := true, named := ["errors.errorType"], plainKeys := false, leaving := true, apart := false, laid := [("errors.errorType", laid_errors_errorType)] }
def FnGermCountSaid : Prop := fnGermCountRow.holds Tryz.pinned (OpenSpec.ofChange fnGermCountSpec)

/-- ITS FALSE NEIGHBOUR: 'it returns false'. Refute it at one input. -/
def fnGermCountWrong : ChangeSpec := { name := "fnGermCount", fn := fun _ => fun
  | [d] => { results := [.lit (.bool false)], args := [d] }
  | _ => none }
def FnGermCountWrongFalsely : Prop := fnGermCountRow.holds Tryz.pinned (OpenSpec.ofChange fnGermCountWrong)

/-- 'laws.FnExactGermCount': WHATEVER THE INPUT: true; the input reads as it did. -/
def fnExactGermCountSpec : ChangeSpec := { name := "fnExactGermCount", fn := fun _ => fun
  | [d1, d2] => { results := [.lit (.bool true)], args := [d1, d2] }
  | _ => none }
def fnExactGermCountRow : OpenClaim := { program := "ytmknjifmmmnjjaagreatdoor", sum := "7dadd460ae50eeee5fc3ee39229d4ab5e61c1205697bf912efb4c3ef1a8916f1", func := "loop.example/partialcharts/laws.FnExactGermCount", spec := "fnExactGermCount", inPlace := ["internal/reflectlite.ValueOf", "(internal/reflectlite.Value).Type", "(internal/reflectlite.Value).IsNil", "internal/reflectlite.TypeOf", "(internal/reflectlite.Value).Elem", "(internal/reflectlite.Value).Set", "(*sync.WaitGroup).Add", "internal/race.ReleaseMerge", "internal/race.Disable", "internal/race.Enable", "internal/synctest.IsInBubble", "internal/synctest.Associate[sync.WaitGroup]", "sync.fatal", "sync/atomic.OrUint64", "sync/atomic.AddUint64", "internal/race.Read", "sync/atomic.LoadUint64", "sync/atomic.StoreUint64", "internal/synctest.Disassociate[sync.WaitGroup]", "sync.runtime_Semrelease", "(*sync.WaitGroup).Done", "(*sync.WaitGroup).Wait", "internal/race.Acquire", "internal/synctest.IsAssociated[sync.WaitGroup]", "sync/atomic.CompareAndSwapUint64", "internal/race.Write", "sync.runtime_SemacquireWaitGroup"], unfollowed := true, recurses := true, named := ["errors.errorType"], plainKeys := false, leaving := true, apart := false, laid := [("errors.errorType", laid_errors_errorType)] }
def FnExactGermCountSaid : Prop := fnExactGermCountRow.holds Tryz.pinned (OpenSpec.ofChange fnExactGermCountSpec)

/-- ITS FALSE NEIGHBOUR: 'it returns false'. Refute it at one input. -/
def fnExactGermCountWrong : ChangeSpec := { name := "fnExactGermCount", fn := fun _ => fun
  | [d1, d2] => { results := [.lit (.bool false)], args := [d1, d2] }
  | _ => none }
def FnExactGermCountWrongFalsely : Prop := fnExactGermCountRow.holds Tryz.pinned (OpenSpec.ofChange fnExactGermCountWrong)

/-- 'laws.FnExactCongruenceGroup': WHATEVER THE INPUT: true; the input reads as it did. -/
def fnExactCongruenceGroupSpec : ChangeSpec := { name := "fnExactCongruenceGroup", fn := fun _ => fun
  | [d] => { results := [.lit (.bool true)], args := [d] }
  | _ => none }
def fnExactCongruenceGroupRow : OpenClaim := { program := "ytmknjifmmmnjjaagreatdoor", sum := "7dadd460ae50eeee5fc3ee39229d4ab5e61c1205697bf912efb4c3ef1a8916f1", func := "loop.example/partialcharts/laws.FnExactCongruenceGroup", spec := "fnExactCongruenceGroup", inPlace := ["internal/reflectlite.ValueOf", "(internal/reflectlite.Value).Type", "(internal/reflectlite.Value).IsNil", "internal/reflectlite.TypeOf", "(internal/reflectlite.Value).Elem", "(internal/reflectlite.Value).Set"], unfollowed := true, recurses := true, named := ["errors.errorType"], plainKeys := false, leaving := true, apart := false, laid := [("errors.errorType", laid_errors_errorType)] }
def FnExactCongruenceGroupSaid : Prop := fnExactCongruenceGroupRow.holds Tryz.pinned (OpenSpec.ofChange fnExactCongruenceGroupSpec)

/-- ITS FALSE NEIGHBOUR: 'it returns false'. Refute it at one input. -/
def fnExactCongruenceGroupWrong : ChangeSpec := { name := "fnExactCongruenceGroup", fn := fun _ => fun
  | [d] => { results := [.lit (.bool false)], args := [d] }
  | _ => none }
def FnExactCongruenceGroupWrongFalsely : Prop := fnExactCongruenceGroupRow.holds Tryz.pinned (OpenSpec.ofChange fnExactCongruenceGroupWrong)

/-- 'laws.FnExactCongruenceLeast': WHATEVER THE INPUT: true; the input reads as it did. -/
def fnExactCongruenceLeastSpec : ChangeSpec := { name := "fnExactCongruenceLeast", fn := fun _ => fun
  | [d1, d2, d3] => { results := [.lit (.bool true)], args := [d1, d2, d3] }
  | _ => none }
def fnExactCongruenceLeastRow : OpenClaim := { program := "ytmknjifmmmnjjaagreatdoor", sum := "7dadd460ae50eeee5fc3ee39229d4ab5e61c1205697bf912efb4c3ef1a8916f1", func := "loop.example/partialcharts/laws.FnExactCongruenceLeast", spec := "fnExactCongruenceLeast", inPlace := ["internal/reflectlite.ValueOf", "(internal/reflectlite.Value).Type", "(internal/reflectlite.Value).IsNil", "internal/reflectlite.TypeOf", "(internal/reflectlite.Value).Elem", "(internal/reflectlite.Value).Set"], unfollowed := true, recurses := true, named := ["errors.errorType"], plainKeys := false, leaving := true, apart := false, laid := [("errors.errorType", laid_errors_errorType)] }
def FnExactCongruenceLeastSaid : Prop := fnExactCongruenceLeastRow.holds Tryz.pinned (OpenSpec.ofChange fnExactCongruenceLeastSpec)

/-- ITS FALSE NEIGHBOUR: 'it returns false'. Refute it at one input. -/
def fnExactCongruenceLeastWrong : ChangeSpec := { name := "fnExactCongruenceLeast", fn := fun _ => fun
  | [d1, d2, d3] => { results := [.lit (.bool false)], args := [d1, d2, d3] }
  | _ => none }
def FnExactCongruenceLeastWrongFalsely : Prop := fnExactCongruenceLeastRow.holds Tryz.pinned (OpenSpec.ofChange fnExactCongruenceLeastWrong)

/-- 'laws.FnExactCongruenceSplit': WHATEVER THE INPUT: true; the input reads as it did. -/
def fnExactCongruenceSplitSpec : ChangeSpec := { name := "fnExactCongruenceSplit", fn := fun _ => fun
  | [d] => { results := [.lit (.bool true)], args := [d] }
  | _ => none }
def fnExactCongruenceSplitRow : OpenClaim := { program := "ytmknjifmmmnjjaagreatdoor", sum := "7dadd460ae50eeee5fc3ee39229d4ab5e61c1205697bf912efb4c3ef1a8916f1", func := "loop.example/partialcharts/laws.FnExactCongruenceSplit", spec := "fnExactCongruenceSplit", inPlace := ["internal/reflectlite.ValueOf", "(internal/reflectlite.Value).Type", "(internal/reflectlite.Value).IsNil", "internal/reflectlite.TypeOf", "(internal/reflectlite.Value).Elem", "(internal/reflectlite.Value).Set"], unfollowed := true, recurses := true, named := ["errors.errorType"], plainKeys := false, leaving := true, apart := false, laid := [("errors.errorType", laid_errors_errorType)] }
def FnExactCongruenceSplitSaid : Prop := fnExactCongruenceSplitRow.holds Tryz.pinned (OpenSpec.ofChange fnExactCongruenceSplitSpec)

/-- ITS FALSE NEIGHBOUR: 'it returns false'. Refute it at one input. -/
def fnExactCongruenceSplitWrong : ChangeSpec := { name := "fnExactCongruenceSplit", fn := fun _ => fun
  | [d] => { results := [.lit (.bool false)], args := [d] }
  | _ => none }
def FnExactCongruenceSplitWrongFalsely : Prop := fnExactCongruenceSplitRow.holds Tryz.pinned (OpenSpec.ofChange fnExactCongruenceSplitWrong)

/-- 'laws.FnExactCongruenceSplits': WHATEVER THE INPUT: true; the input reads as it did. -/
def fnExactCongruenceSplitsSpec : ChangeSpec := { name := "fnExactCongruenceSplits", fn := fun _ => fun
  | [d1, d2] => { results := [.lit (.bool true)], args := [d1, d2] }
  | _ => none }
def fnExactCongruenceSplitsRow : OpenClaim := { program := "ytmknjifmmmnjjaagreatdoor", sum := "7dadd460ae50eeee5fc3ee39229d4ab5e61c1205697bf912efb4c3ef1a8916f1", func := "loop.example/partialcharts/laws.FnExactCongruenceSplits", spec := "fnExactCongruenceSplits", inPlace := ["internal/reflectlite.ValueOf", "(internal/reflectlite.Value).Type", "(internal/reflectlite.Value).IsNil", "internal/reflectlite.TypeOf", "(internal/reflectlite.Value).Elem", "(internal/reflectlite.Value).Set"], unfollowed := true, recurses := true, named := ["errors.errorType"], plainKeys := false, leaving := true, apart := false, laid := [("errors.errorType", laid_errors_errorType)] }
def FnExactCongruenceSplitsSaid : Prop := fnExactCongruenceSplitsRow.holds Tryz.pinned (OpenSpec.ofChange fnExactCongruenceSplitsSpec)

/-- ITS FALSE NEIGHBOUR: 'it returns false'. Refute it at one input. -/
def fnExactCongruenceSplitsWrong : ChangeSpec := { name := "fnExactCongruenceSplits", fn := fun _ => fun
  | [d1, d2] => { results := [.lit (.bool false)], args := [d1, d2] }
  | _ => none }
def FnExactCongruenceSplitsWrongFalsely : Prop := fnExactCongruenceSplitsRow.holds Tryz.pinned (OpenSpec.ofChange fnExactCongruenceSplitsWrong)

/-- 'laws.FnExactCongruenceKernel': WHATEVER THE INPUT: true; the input reads as it did. -/
def fnExactCongruenceKernelSpec : ChangeSpec := { name := "fnExactCongruenceKernel", fn := fun _ => fun
  | [d1, d2] => { results := [.lit (.bool true)], args := [d1, d2] }
  | _ => none }
def fnExactCongruenceKernelRow : OpenClaim := { program := "ytmknjifmmmnjjaagreatdoor", sum := "7dadd460ae50eeee5fc3ee39229d4ab5e61c1205697bf912efb4c3ef1a8916f1", func := "loop.example/partialcharts/laws.FnExactCongruenceKernel", spec := "fnExactCongruenceKernel", inPlace := ["internal/reflectlite.ValueOf", "(internal/reflectlite.Value).Type", "(internal/reflectlite.Value).IsNil", "internal/reflectlite.TypeOf", "(internal/reflectlite.Value).Elem", "(internal/reflectlite.Value).Set"], unfollowed := true, recurses := true, named := ["errors.errorType"], plainKeys := false, leaving := true, apart := false, laid := [("errors.errorType", laid_errors_errorType)] }
def FnExactCongruenceKernelSaid : Prop := fnExactCongruenceKernelRow.holds Tryz.pinned (OpenSpec.ofChange fnExactCongruenceKernelSpec)

/-- ITS FALSE NEIGHBOUR: 'it returns false'. Refute it at one input. -/
def fnExactCongruenceKernelWrong : ChangeSpec := { name := "fnExactCongruenceKernel", fn := fun _ => fun
  | [d1, d2] => { results := [.lit (.bool false)], args := [d1, d2] }
  | _ => none }
def FnExactCongruenceKernelWrongFalsely : Prop := fnExactCongruenceKernelRow.holds Tryz.pinned (OpenSpec.ofChange fnExactCongruenceKernelWrong)

/-- 'laws.FnExactCongruenceSize': WHATEVER THE INPUT: true; the input reads as it did. -/
def fnExactCongruenceSizeSpec : ChangeSpec := { name := "fnExactCongruenceSize", fn := fun _ => fun
  | [d1, d2] => { results := [.lit (.bool true)], args := [d1, d2] }
  | _ => none }
def fnExactCongruenceSizeRow : OpenClaim := { program := "ytmknjifmmmnjjaagreatdoor", sum := "7dadd460ae50eeee5fc3ee39229d4ab5e61c1205697bf912efb4c3ef1a8916f1", func := "loop.example/partialcharts/laws.FnExactCongruenceSize", spec := "fnExactCongruenceSize", inPlace := ["internal/reflectlite.ValueOf", "(internal/reflectlite.Value).Type", "(internal/reflectlite.Value).IsNil", "internal/reflectlite.TypeOf", "(internal/reflectlite.Value).Elem", "(internal/reflectlite.Value).Set"], unfollowed := true, recurses := true, named := ["errors.errorType"], plainKeys := false, leaving := true, apart := false, laid := [("errors.errorType", laid_errors_errorType)] }
def FnExactCongruenceSizeSaid : Prop := fnExactCongruenceSizeRow.holds Tryz.pinned (OpenSpec.ofChange fnExactCongruenceSizeSpec)

/-- ITS FALSE NEIGHBOUR: 'it returns false'. Refute it at one input. -/
def fnExactCongruenceSizeWrong : ChangeSpec := { name := "fnExactCongruenceSize", fn := fun _ => fun
  | [d1, d2] => { results := [.lit (.bool false)], args := [d1, d2] }
  | _ => none }
def FnExactCongruenceSizeWrongFalsely : Prop := fnExactCongruenceSizeRow.holds Tryz.pinned (OpenSpec.ofChange fnExactCongruenceSizeWrong)

/-- 'laws.FnExactCongruenceFiner': WHATEVER THE INPUT: true; the input reads as it did. -/
def fnExactCongruenceFinerSpec : ChangeSpec := { name := "fnExactCongruenceFiner", fn := fun _ => fun
  | [d1, d2, d3] => { results := [.lit (.bool true)], args := [d1, d2, d3] }
  | _ => none }
def fnExactCongruenceFinerRow : OpenClaim := { program := "ytmknjifmmmnjjaagreatdoor", sum := "7dadd460ae50eeee5fc3ee39229d4ab5e61c1205697bf912efb4c3ef1a8916f1", func := "loop.example/partialcharts/laws.FnExactCongruenceFiner", spec := "fnExactCongruenceFiner", inPlace := ["internal/reflectlite.ValueOf", "(internal/reflectlite.Value).Type", "(internal/reflectlite.Value).IsNil", "internal/reflectlite.TypeOf", "(internal/reflectlite.Value).Elem", "(internal/reflectlite.Value).Set"], unfollowed := true, recurses := true, named := ["errors.errorType"], plainKeys := false, leaving := true, apart := false, laid := [("errors.errorType", laid_errors_errorType)] }
def FnExactCongruenceFinerSaid : Prop := fnExactCongruenceFinerRow.holds Tryz.pinned (OpenSpec.ofChange fnExactCongruenceFinerSpec)

/-- ITS FALSE NEIGHBOUR: 'it returns false'. Refute it at one input. -/
def fnExactCongruenceFinerWrong : ChangeSpec := { name := "fnExactCongruenceFiner", fn := fun _ => fun
  | [d1, d2, d3] => { results := [.lit (.bool false)], args := [d1, d2, d3] }
  | _ => none }
def FnExactCongruenceFinerWrongFalsely : Prop := fnExactCongruenceFinerRow.holds Tryz.pinned (OpenSpec.ofChange fnExactCongruenceFinerWrong)

/- THE SECOND FORM. 'bulk': how many values and letters a reading holds, each counted each time it is reached (what is shared counts as often as it is met; a slice's spare places count too). A statement '..UptoSaid' is the law's where the arguments, and the package variables that the reading takes, are together of bulk at most 1048576: NARROWER than '..Said'. Prove '..Said' where nothing that the law and all that it calls make is longer than what came in: it says more and counts as full. Else prove '..UptoSaid'. A law counts once. -/
mutual
def uptoBulk {H : Type} : DataW H → Nat
  | .lit (.string bytes) => bytes.length + 1
  | .lit _ => 1
  | .nil => 1
  | .ptr d => uptoBulk d + 1
  | .slice elems spare => uptoBulkAll elems + uptoBulkAll spare + 1
  | .agg parts => uptoBulkAll parts + 1
  | .iface _ d => uptoBulk d + 1
  | .map entries => uptoBulkEntries entries + 1
  | .held _ => 1
def uptoBulkAll {H : Type} : List (DataW H) → Nat
  | [] => 0
  | d :: r => uptoBulk d + uptoBulkAll r
def uptoBulkEntries {H : Type} : List (Lit × DataW H) → Nat
  | [] => 0
  | x :: r => uptoBulkEntry x + uptoBulkEntries r
def uptoBulkEntry {H : Type} : Lit × DataW H → Nat
  | (.string bytes, d) => bytes.length + uptoBulk d + 1
  | (_, d) => uptoBulk d + 1
 end
def uptoSmall : (H : Type) → List (DataW H) → Bool := fun _ ds => decide (uptoBulkAll ds ≤ 1048576)
def OpenSpec.upto (s : _root_.Go.ChangeSpec) : _root_.Go.OpenSpec := { _root_.Go.OpenSpec.ofChange s with cond := some uptoSmall }

/-- 'laws.FnGermSame', WHERE WHAT IT READS IS OF BULK AT MOST 1048576: true; the input reads as it did. -/
def fnGermSameUptoRow : OpenClaim := { program := "ytmknjifmmmnjjaagreatdoor", sum := "7dadd460ae50eeee5fc3ee39229d4ab5e61c1205697bf912efb4c3ef1a8916f1", func := "loop.example/partialcharts/laws.FnGermSame", spec := "fnGermSame", inPlace := ["internal/reflectlite.ValueOf", "(internal/reflectlite.Value).Type", "(internal/reflectlite.Value).IsNil", "internal/reflectlite.TypeOf", "(internal/reflectlite.Value).Elem", "(internal/reflectlite.Value).Set"], unfollowed := true, recurses := true, named := ["errors.errorType"], plainKeys := false, leaving := true, apart := false, laid := [("errors.errorType", laid_errors_errorType)], narrowed := true }
def FnGermSameUptoSaid : Prop := fnGermSameUptoRow.holds Tryz.pinned (OpenSpec.upto fnGermSameSpec)

/-- 'laws.FnGermCount', WHERE WHAT IT READS IS OF BULK AT MOST 1048576: true; the input reads as it did. -/
def fnGermCountUptoRow : OpenClaim := { program := "ytmknjifmmmnjjaagreatdoor", sum := "7dadd460ae50eeee5fc3ee39229d4ab5e61c1205697bf912efb4c3ef1a8916f1", func := "loop.example/partialcharts/laws.FnGermCount", spec := "fnGermCount", inPlace := ["internal/reflectlite.ValueOf", "(internal/reflectlite.Value).Type", "(internal/reflectlite.Value).IsNil", "internal/reflectlite.TypeOf", "(internal/reflectlite.Value).Elem", "(internal/reflectlite.Value).Set", "(*sync.WaitGroup).Add", "internal/race.ReleaseMerge", "internal/race.Disable", "internal/race.Enable", "internal/synctest.IsInBubble", "internal/synctest.Associate[sync.WaitGroup]", "sync.fatal", "sync/atomic.OrUint64", "sync/atomic.AddUint64", "internal/race.Read", "sync/atomic.LoadUint64", "sync/atomic.StoreUint64", "internal/synctest.Disassociate[sync.WaitGroup]", "sync.runtime_Semrelease", "(*sync.WaitGroup).Done", "(*sync.WaitGroup).Wait", "internal/race.Acquire", "internal/synctest.IsAssociated[sync.WaitGroup]", "sync/atomic.CompareAndSwapUint64", "internal/race.Write", "sync.runtime_SemacquireWaitGroup"], unfollowed := true, recurses := true, named := ["errors.errorType"], plainKeys := false, leaving := true, apart := false, laid := [("errors.errorType", laid_errors_errorType)], narrowed := true }
def FnGermCountUptoSaid : Prop := fnGermCountUptoRow.holds Tryz.pinned (OpenSpec.upto fnGermCountSpec)

/-- 'laws.FnExactGermCount', WHERE WHAT IT READS IS OF BULK AT MOST 1048576: true; the input reads as it did. -/
def fnExactGermCountUptoRow : OpenClaim := { program := "ytmknjifmmmnjjaagreatdoor", sum := "7dadd460ae50eeee5fc3ee39229d4ab5e61c1205697bf912efb4c3ef1a8916f1", func := "loop.example/partialcharts/laws.FnExactGermCount", spec := "fnExactGermCount", inPlace := ["internal/reflectlite.ValueOf", "(internal/reflectlite.Value).Type", "(internal/reflectlite.Value).IsNil", "internal/reflectlite.TypeOf", "(internal/reflectlite.Value).Elem", "(internal/reflectlite.Value).Set", "(*sync.WaitGroup).Add", "internal/race.ReleaseMerge", "internal/race.Disable", "internal/race.Enable", "internal/synctest.IsInBubble", "internal/synctest.Associate[sync.WaitGroup]", "sync.fatal", "sync/atomic.OrUint64", "sync/atomic.AddUint64", "internal/race.Read", "sync/atomic.LoadUint64", "sync/atomic.StoreUint64", "internal/synctest.Disassociate[sync.WaitGroup]", "sync.runtime_Semrelease", "(*sync.WaitGroup).Done", "(*sync.WaitGroup).Wait", "internal/race.Acquire", "internal/synctest.IsAssociated[sync.WaitGroup]", "sync/atomic.CompareAndSwapUint64", "internal/race.Write", "sync.runtime_SemacquireWaitGroup"], unfollowed := true, recurses := true, named := ["errors.errorType"], plainKeys := false, leaving := true, apart := false, laid := [("errors.errorType", laid_errors_errorType)], narrowed := true }
def FnExactGermCountUptoSaid : Prop := fnExactGermCountUptoRow.holds Tryz.pinned (OpenSpec.upto fnExactGermCountSpec)

/-- 'laws.FnExactCongruenceGroup', WHERE WHAT IT READS IS OF BULK AT MOST 1048576: true; the input reads as it did. -/
def fnExactCongruenceGroupUptoRow : OpenClaim := { program := "ytmknjifmmmnjjaagreatdoor", sum := "7dadd460ae50eeee5fc3ee39229d4ab5e61c1205697bf912efb4c3ef1a8916f1", func := "loop.example/partialcharts/laws.FnExactCongruenceGroup", spec := "fnExactCongruenceGroup", inPlace := ["internal/reflectlite.ValueOf", "(internal/reflectlite.Value).Type", "(internal/reflectlite.Value).IsNil", "internal/reflectlite.TypeOf", "(internal/reflectlite.Value).Elem", "(internal/reflectlite.Value).Set"], unfollowed := true, recurses := true, named := ["errors.errorType"], plainKeys := false, leaving := true, apart := false, laid := [("errors.errorType", laid_errors_errorType)], narrowed := true }
def FnExactCongruenceGroupUptoSaid : Prop := fnExactCongruenceGroupUptoRow.holds Tryz.pinned (OpenSpec.upto fnExactCongruenceGroupSpec)

/-- 'laws.FnExactCongruenceLeast', WHERE WHAT IT READS IS OF BULK AT MOST 1048576: true; the input reads as it did. -/
def fnExactCongruenceLeastUptoRow : OpenClaim := { program := "ytmknjifmmmnjjaagreatdoor", sum := "7dadd460ae50eeee5fc3ee39229d4ab5e61c1205697bf912efb4c3ef1a8916f1", func := "loop.example/partialcharts/laws.FnExactCongruenceLeast", spec := "fnExactCongruenceLeast", inPlace := ["internal/reflectlite.ValueOf", "(internal/reflectlite.Value).Type", "(internal/reflectlite.Value).IsNil", "internal/reflectlite.TypeOf", "(internal/reflectlite.Value).Elem", "(internal/reflectlite.Value).Set"], unfollowed := true, recurses := true, named := ["errors.errorType"], plainKeys := false, leaving := true, apart := false, laid := [("errors.errorType", laid_errors_errorType)], narrowed := true }
def FnExactCongruenceLeastUptoSaid : Prop := fnExactCongruenceLeastUptoRow.holds Tryz.pinned (OpenSpec.upto fnExactCongruenceLeastSpec)

/-- 'laws.FnExactCongruenceSplit', WHERE WHAT IT READS IS OF BULK AT MOST 1048576: true; the input reads as it did. -/
def fnExactCongruenceSplitUptoRow : OpenClaim := { program := "ytmknjifmmmnjjaagreatdoor", sum := "7dadd460ae50eeee5fc3ee39229d4ab5e61c1205697bf912efb4c3ef1a8916f1", func := "loop.example/partialcharts/laws.FnExactCongruenceSplit", spec := "fnExactCongruenceSplit", inPlace := ["internal/reflectlite.ValueOf", "(internal/reflectlite.Value).Type", "(internal/reflectlite.Value).IsNil", "internal/reflectlite.TypeOf", "(internal/reflectlite.Value).Elem", "(internal/reflectlite.Value).Set"], unfollowed := true, recurses := true, named := ["errors.errorType"], plainKeys := false, leaving := true, apart := false, laid := [("errors.errorType", laid_errors_errorType)], narrowed := true }
def FnExactCongruenceSplitUptoSaid : Prop := fnExactCongruenceSplitUptoRow.holds Tryz.pinned (OpenSpec.upto fnExactCongruenceSplitSpec)

/-- 'laws.FnExactCongruenceSplits', WHERE WHAT IT READS IS OF BULK AT MOST 1048576: true; the input reads as it did. -/
def fnExactCongruenceSplitsUptoRow : OpenClaim := { program := "ytmknjifmmmnjjaagreatdoor", sum := "7dadd460ae50eeee5fc3ee39229d4ab5e61c1205697bf912efb4c3ef1a8916f1", func := "loop.example/partialcharts/laws.FnExactCongruenceSplits", spec := "fnExactCongruenceSplits", inPlace := ["internal/reflectlite.ValueOf", "(internal/reflectlite.Value).Type", "(internal/reflectlite.Value).IsNil", "internal/reflectlite.TypeOf", "(internal/reflectlite.Value).Elem", "(internal/reflectlite.Value).Set"], unfollowed := true, recurses := true, named := ["errors.errorType"], plainKeys := false, leaving := true, apart := false, laid := [("errors.errorType", laid_errors_errorType)], narrowed := true }
def FnExactCongruenceSplitsUptoSaid : Prop := fnExactCongruenceSplitsUptoRow.holds Tryz.pinned (OpenSpec.upto fnExactCongruenceSplitsSpec)

/-- 'laws.FnExactCongruenceKernel', WHERE WHAT IT READS IS OF BULK AT MOST 1048576: true; the input reads as it did. -/
def fnExactCongruenceKernelUptoRow : OpenClaim := { program := "ytmknjifmmmnjjaagreatdoor", sum := "7dadd460ae50eeee5fc3ee39229d4ab5e61c1205697bf912efb4c3ef1a8916f1", func := "loop.example/partialcharts/laws.FnExactCongruenceKernel", spec := "fnExactCongruenceKernel", inPlace := ["internal/reflectlite.ValueOf", "(internal/reflectlite.Value).Type", "(internal/reflectlite.Value).IsNil", "internal/reflectlite.TypeOf", "(internal/reflectlite.Value).Elem", "(internal/reflectlite.Value).Set"], unfollowed := true, recurses := true, named := ["errors.errorType"], plainKeys := false, leaving := true, apart := false, laid := [("errors.errorType", laid_errors_errorType)], narrowed := true }
def FnExactCongruenceKernelUptoSaid : Prop := fnExactCongruenceKernelUptoRow.holds Tryz.pinned (OpenSpec.upto fnExactCongruenceKernelSpec)

/-- 'laws.FnExactCongruenceSize', WHERE WHAT IT READS IS OF BULK AT MOST 1048576: true; the input reads as it did. -/
def fnExactCongruenceSizeUptoRow : OpenClaim := { program := "ytmknjifmmmnjjaagreatdoor", sum := "7dadd460ae50eeee5fc3ee39229d4ab5e61c1205697bf912efb4c3ef1a8916f1", func := "loop.example/partialcharts/laws.FnExactCongruenceSize", spec := "fnExactCongruenceSize", inPlace := ["internal/reflectlite.ValueOf", "(internal/reflectlite.Value).Type", "(internal/reflectlite.Value).IsNil", "internal/reflectlite.TypeOf", "(internal/reflectlite.Value).Elem", "(internal/reflectlite.Value).Set"], unfollowed := true, recurses := true, named := ["errors.errorType"], plainKeys := false, leaving := true, apart := false, laid := [("errors.errorType", laid_errors_errorType)], narrowed := true }
def FnExactCongruenceSizeUptoSaid : Prop := fnExactCongruenceSizeUptoRow.holds Tryz.pinned (OpenSpec.upto fnExactCongruenceSizeSpec)

/-- 'laws.FnExactCongruenceFiner', WHERE WHAT IT READS IS OF BULK AT MOST 1048576: true; the input reads as it did. -/
def fnExactCongruenceFinerUptoRow : OpenClaim := { program := "ytmknjifmmmnjjaagreatdoor", sum := "7dadd460ae50eeee5fc3ee39229d4ab5e61c1205697bf912efb4c3ef1a8916f1", func := "loop.example/partialcharts/laws.FnExactCongruenceFiner", spec := "fnExactCongruenceFiner", inPlace := ["internal/reflectlite.ValueOf", "(internal/reflectlite.Value).Type", "(internal/reflectlite.Value).IsNil", "internal/reflectlite.TypeOf", "(internal/reflectlite.Value).Elem", "(internal/reflectlite.Value).Set"], unfollowed := true, recurses := true, named := ["errors.errorType"], plainKeys := false, leaving := true, apart := false, laid := [("errors.errorType", laid_errors_errorType)], narrowed := true }
def FnExactCongruenceFinerUptoSaid : Prop := fnExactCongruenceFinerUptoRow.holds Tryz.pinned (OpenSpec.upto fnExactCongruenceFinerSpec)

end Rows
end Go.Proofs.YtmknjifmmmnjjaaGreatDoor
