/-
  NARROWER THAN 'FOR EVERY INPUT', by the rows' own cells (each row's printed sentence says how): FnExactArrowObjects: laid · FnExactArrowParts: laid · FnExactArrowLocal: laid · FnExactArrowFrom: laid · FnExactGermSame: laid · FnExactGermCount: laid · FnExactGermPlaces: laid · FnObjects: laid.
  DERIVED. THE GIVEN ROWS OF THIS SEAT. 8 by the template 'for every input the law returns true; each argument reads behind the call as it read before'; 0 by the template 'total and deterministic' (their statements: YtoomeimloaloaaaGreatDoorTotals.lean).
  GIVEN WITH THE SEED: the statements are not yours to turn. If you find one false, say at which input.
  Laid BY PROGRAM, IN A SANDBOX (cutbox-rows.mjs): the forced cells as the released guide's own fill.sh prints them over the translation 9d49622546c4c34a… (all of the seat's roots in one cut). By AI agents, Wed Nov 11 2026. No macro, syntax, notation, axiom, sorry.
-/
import Derived.Test.YtoomeimloaloaaaGreatDoorChecked
import GoSem.Claim
import GoSem.ClaimJoined
import GoSem.ClaimMapViews
import Derived.JoinedTies
import Derived.KernelRfl
namespace Go.Proofs.YtoomeimloaloaaaGreatDoor
/- THE CELL 'sum', in the pinned program and in every row, IS THE sha256 OF THE DUMP (.gsa) THAT YtoomeimloaloaaaGreatDoorProg.lean LOADS. Nothing in Lean hashes anything: it is a label: what it is worth is what the hold of that sum in a sandbox is worth. -/
noncomputable def Tryz.pinned : Pinned := { name := "ytoomeimloaloaaagreatdoor", sum := "9d49622546c4c34a180b8c2ed3ad9a03ab00acb64ceaf63d55cc7492216ea1c4", checked := Tryz.checked }
namespace Rows
def none {H : Type} : Left H := { results := [], args := [] }

/- WHAT THE LISTED PACKAGE-LEVEL VARIABLES READ AS WHEN THE CALL BEGINS. Each datum BY PROGRAM (the guide's laid-datum.mjs) off the statement by which the dump's own 'gosem.cut.vars' lays the variable. In a bare row this is a premise. The card (YtoomeimloaloaaaGreatDoorCards.lean) ties it to the program's text. -/
def laid_errors_errorType {H : Type} : DataW H := .iface "internal/reflectlite.rtype" (.agg [.ptr (.lit (.string [101, 114, 114, 111, 114]))])

/-- 'laws.FnExactArrowObjects': WHATEVER THE INPUT: true; the input reads as it did. -/
def fnExactArrowObjectsSpec : ChangeSpec := { name := "fnExactArrowObjects", fn := fun _ => fun
  | [d] => { results := [.lit (.bool true)], args := [d] }
  | _ => none }
def fnExactArrowObjectsRow : OpenClaim := { program := "ytoomeimloaloaaagreatdoor", sum := "9d49622546c4c34a180b8c2ed3ad9a03ab00acb64ceaf63d55cc7492216ea1c4", func := "loop.example/partialcharts/laws.FnExactArrowObjects", spec := "fnExactArrowObjects", inPlace := ["internal/reflectlite.ValueOf", "(internal/reflectlite.Value).Type", "(internal/reflectlite.Value).IsNil", "internal/reflectlite.TypeOf", "(internal/reflectlite.Value).Elem", "(internal/reflectlite.Value).Set"], unfollowed := true, recurses := true, named := ["errors.errorType"], plainKeys := false, leaving := true, apart := false, laid := [("errors.errorType", laid_errors_errorType)] }
def FnExactArrowObjectsSaid : Prop := fnExactArrowObjectsRow.holds Tryz.pinned (OpenSpec.ofChange fnExactArrowObjectsSpec)

/-- ITS FALSE NEIGHBOUR: 'it returns false'. Refute it at one input. -/
def fnExactArrowObjectsWrong : ChangeSpec := { name := "fnExactArrowObjects", fn := fun _ => fun
  | [d] => { results := [.lit (.bool false)], args := [d] }
  | _ => none }
def FnExactArrowObjectsWrongFalsely : Prop := fnExactArrowObjectsRow.holds Tryz.pinned (OpenSpec.ofChange fnExactArrowObjectsWrong)

/-- 'laws.FnExactArrowParts': WHATEVER THE INPUT: true; the input reads as it did. -/
def fnExactArrowPartsSpec : ChangeSpec := { name := "fnExactArrowParts", fn := fun _ => fun
  | [d] => { results := [.lit (.bool true)], args := [d] }
  | _ => none }
def fnExactArrowPartsRow : OpenClaim := { program := "ytoomeimloaloaaagreatdoor", sum := "9d49622546c4c34a180b8c2ed3ad9a03ab00acb64ceaf63d55cc7492216ea1c4", func := "loop.example/partialcharts/laws.FnExactArrowParts", spec := "fnExactArrowParts", inPlace := ["internal/reflectlite.ValueOf", "(internal/reflectlite.Value).Type", "(internal/reflectlite.Value).IsNil", "internal/reflectlite.TypeOf", "(internal/reflectlite.Value).Elem", "(internal/reflectlite.Value).Set"], unfollowed := true, recurses := true, named := ["errors.errorType"], plainKeys := false, leaving := true, apart := false, laid := [("errors.errorType", laid_errors_errorType)] }
def FnExactArrowPartsSaid : Prop := fnExactArrowPartsRow.holds Tryz.pinned (OpenSpec.ofChange fnExactArrowPartsSpec)

/-- ITS FALSE NEIGHBOUR: 'it returns false'. Refute it at one input. -/
def fnExactArrowPartsWrong : ChangeSpec := { name := "fnExactArrowParts", fn := fun _ => fun
  | [d] => { results := [.lit (.bool false)], args := [d] }
  | _ => none }
def FnExactArrowPartsWrongFalsely : Prop := fnExactArrowPartsRow.holds Tryz.pinned (OpenSpec.ofChange fnExactArrowPartsWrong)

/-- 'laws.FnExactArrowLocal': WHATEVER THE INPUT: true; the input reads as it did. -/
def fnExactArrowLocalSpec : ChangeSpec := { name := "fnExactArrowLocal", fn := fun _ => fun
  | [d1, d2] => { results := [.lit (.bool true)], args := [d1, d2] }
  | _ => none }
def fnExactArrowLocalRow : OpenClaim := { program := "ytoomeimloaloaaagreatdoor", sum := "9d49622546c4c34a180b8c2ed3ad9a03ab00acb64ceaf63d55cc7492216ea1c4", func := "loop.example/partialcharts/laws.FnExactArrowLocal", spec := "fnExactArrowLocal", inPlace := ["internal/reflectlite.ValueOf", "(internal/reflectlite.Value).Type", "(internal/reflectlite.Value).IsNil", "internal/reflectlite.TypeOf", "(internal/reflectlite.Value).Elem", "(internal/reflectlite.Value).Set"], unfollowed := true, recurses := true, named := ["errors.errorType"], plainKeys := false, leaving := true, apart := false, laid := [("errors.errorType", laid_errors_errorType)] }
def FnExactArrowLocalSaid : Prop := fnExactArrowLocalRow.holds Tryz.pinned (OpenSpec.ofChange fnExactArrowLocalSpec)

/-- ITS FALSE NEIGHBOUR: 'it returns false'. Refute it at one input. -/
def fnExactArrowLocalWrong : ChangeSpec := { name := "fnExactArrowLocal", fn := fun _ => fun
  | [d1, d2] => { results := [.lit (.bool false)], args := [d1, d2] }
  | _ => none }
def FnExactArrowLocalWrongFalsely : Prop := fnExactArrowLocalRow.holds Tryz.pinned (OpenSpec.ofChange fnExactArrowLocalWrong)

/-- 'laws.FnExactArrowFrom': WHATEVER THE INPUT: true; the input reads as it did. -/
def fnExactArrowFromSpec : ChangeSpec := { name := "fnExactArrowFrom", fn := fun _ => fun
  | [d1, d2, d3] => { results := [.lit (.bool true)], args := [d1, d2, d3] }
  | _ => none }
def fnExactArrowFromRow : OpenClaim := { program := "ytoomeimloaloaaagreatdoor", sum := "9d49622546c4c34a180b8c2ed3ad9a03ab00acb64ceaf63d55cc7492216ea1c4", func := "loop.example/partialcharts/laws.FnExactArrowFrom", spec := "fnExactArrowFrom", inPlace := ["internal/reflectlite.ValueOf", "(internal/reflectlite.Value).Type", "(internal/reflectlite.Value).IsNil", "internal/reflectlite.TypeOf", "(internal/reflectlite.Value).Elem", "(internal/reflectlite.Value).Set"], unfollowed := true, recurses := true, named := ["errors.errorType"], plainKeys := false, leaving := true, apart := false, laid := [("errors.errorType", laid_errors_errorType)] }
def FnExactArrowFromSaid : Prop := fnExactArrowFromRow.holds Tryz.pinned (OpenSpec.ofChange fnExactArrowFromSpec)

/-- ITS FALSE NEIGHBOUR: 'it returns false'. Refute it at one input. -/
def fnExactArrowFromWrong : ChangeSpec := { name := "fnExactArrowFrom", fn := fun _ => fun
  | [d1, d2, d3] => { results := [.lit (.bool false)], args := [d1, d2, d3] }
  | _ => none }
def FnExactArrowFromWrongFalsely : Prop := fnExactArrowFromRow.holds Tryz.pinned (OpenSpec.ofChange fnExactArrowFromWrong)

/-- 'laws.FnExactGermSame': WHATEVER THE INPUT: true; the input reads as it did. -/
def fnExactGermSameSpec : ChangeSpec := { name := "fnExactGermSame", fn := fun _ => fun
  | [d1, d2, d3, d4] => { results := [.lit (.bool true)], args := [d1, d2, d3, d4] }
  | _ => none }
def fnExactGermSameRow : OpenClaim := { program := "ytoomeimloaloaaagreatdoor", sum := "9d49622546c4c34a180b8c2ed3ad9a03ab00acb64ceaf63d55cc7492216ea1c4", func := "loop.example/partialcharts/laws.FnExactGermSame", spec := "fnExactGermSame", inPlace := ["internal/reflectlite.ValueOf", "(internal/reflectlite.Value).Type", "(internal/reflectlite.Value).IsNil", "internal/reflectlite.TypeOf", "(internal/reflectlite.Value).Elem", "(internal/reflectlite.Value).Set"], unfollowed := true, recurses := true, named := ["errors.errorType"], plainKeys := false, leaving := true, apart := false, laid := [("errors.errorType", laid_errors_errorType)] }
def FnExactGermSameSaid : Prop := fnExactGermSameRow.holds Tryz.pinned (OpenSpec.ofChange fnExactGermSameSpec)

/-- ITS FALSE NEIGHBOUR: 'it returns false'. Refute it at one input. -/
def fnExactGermSameWrong : ChangeSpec := { name := "fnExactGermSame", fn := fun _ => fun
  | [d1, d2, d3, d4] => { results := [.lit (.bool false)], args := [d1, d2, d3, d4] }
  | _ => none }
def FnExactGermSameWrongFalsely : Prop := fnExactGermSameRow.holds Tryz.pinned (OpenSpec.ofChange fnExactGermSameWrong)

/-- 'laws.FnExactGermCount': WHATEVER THE INPUT: true; the input reads as it did. -/
def fnExactGermCountSpec : ChangeSpec := { name := "fnExactGermCount", fn := fun _ => fun
  | [d1, d2] => { results := [.lit (.bool true)], args := [d1, d2] }
  | _ => none }
def fnExactGermCountRow : OpenClaim := { program := "ytoomeimloaloaaagreatdoor", sum := "9d49622546c4c34a180b8c2ed3ad9a03ab00acb64ceaf63d55cc7492216ea1c4", func := "loop.example/partialcharts/laws.FnExactGermCount", spec := "fnExactGermCount", inPlace := ["internal/reflectlite.ValueOf", "(internal/reflectlite.Value).Type", "(internal/reflectlite.Value).IsNil", "internal/reflectlite.TypeOf", "(internal/reflectlite.Value).Elem", "(internal/reflectlite.Value).Set", "(*sync.WaitGroup).Add", "internal/race.ReleaseMerge", "internal/race.Disable", "internal/race.Enable", "internal/synctest.IsInBubble", "internal/synctest.Associate[sync.WaitGroup]", "sync.fatal", "sync/atomic.OrUint64", "sync/atomic.AddUint64", "internal/race.Read", "sync/atomic.LoadUint64", "sync/atomic.StoreUint64", "internal/synctest.Disassociate[sync.WaitGroup]", "sync.runtime_Semrelease", "(*sync.WaitGroup).Done", "(*sync.WaitGroup).Wait", "internal/race.Acquire", "internal/synctest.IsAssociated[sync.WaitGroup]", "sync/atomic.CompareAndSwapUint64", "internal/race.Write", "sync.runtime_SemacquireWaitGroup"], unfollowed := true, recurses := true, named := ["errors.errorType"], plainKeys := false, leaving := true, apart := false, laid := [("errors.errorType", laid_errors_errorType)] }
def FnExactGermCountSaid : Prop := fnExactGermCountRow.holds Tryz.pinned (OpenSpec.ofChange fnExactGermCountSpec)

/-- ITS FALSE NEIGHBOUR: 'it returns false'. Refute it at one input. -/
def fnExactGermCountWrong : ChangeSpec := { name := "fnExactGermCount", fn := fun _ => fun
  | [d1, d2] => { results := [.lit (.bool false)], args := [d1, d2] }
  | _ => none }
def FnExactGermCountWrongFalsely : Prop := fnExactGermCountRow.holds Tryz.pinned (OpenSpec.ofChange fnExactGermCountWrong)

/-- 'laws.FnExactGermPlaces': WHATEVER THE INPUT: true; the input reads as it did. -/
def fnExactGermPlacesSpec : ChangeSpec := { name := "fnExactGermPlaces", fn := fun _ => fun
  | [d1, d2] => { results := [.lit (.bool true)], args := [d1, d2] }
  | _ => none }
def fnExactGermPlacesRow : OpenClaim := { program := "ytoomeimloaloaaagreatdoor", sum := "9d49622546c4c34a180b8c2ed3ad9a03ab00acb64ceaf63d55cc7492216ea1c4", func := "loop.example/partialcharts/laws.FnExactGermPlaces", spec := "fnExactGermPlaces", inPlace := ["internal/reflectlite.ValueOf", "(internal/reflectlite.Value).Type", "(internal/reflectlite.Value).IsNil", "internal/reflectlite.TypeOf", "(internal/reflectlite.Value).Elem", "(internal/reflectlite.Value).Set"], unfollowed := true, recurses := true, named := ["errors.errorType"], plainKeys := false, leaving := true, apart := false, laid := [("errors.errorType", laid_errors_errorType)] }
def FnExactGermPlacesSaid : Prop := fnExactGermPlacesRow.holds Tryz.pinned (OpenSpec.ofChange fnExactGermPlacesSpec)

/-- ITS FALSE NEIGHBOUR: 'it returns false'. Refute it at one input. -/
def fnExactGermPlacesWrong : ChangeSpec := { name := "fnExactGermPlaces", fn := fun _ => fun
  | [d1, d2] => { results := [.lit (.bool false)], args := [d1, d2] }
  | _ => none }
def FnExactGermPlacesWrongFalsely : Prop := fnExactGermPlacesRow.holds Tryz.pinned (OpenSpec.ofChange fnExactGermPlacesWrong)

/-- 'laws.FnObjects': WHATEVER THE INPUT: true; the input reads as it did. -/
def fnObjectsSpec : ChangeSpec := { name := "fnObjects", fn := fun _ => fun
  | [d] => { results := [.lit (.bool true)], args := [d] }
  | _ => none }
def fnObjectsRow : OpenClaim := { program := "ytoomeimloaloaaagreatdoor", sum := "9d49622546c4c34a180b8c2ed3ad9a03ab00acb64ceaf63d55cc7492216ea1c4", func := "loop.example/partialcharts/laws.FnObjects", spec := "fnObjects", inPlace := ["internal/reflectlite.ValueOf", "(internal/reflectlite.Value).Type", "(internal/reflectlite.Value).IsNil", "internal/reflectlite.TypeOf", "(internal/reflectlite.Value).Elem", "(internal/reflectlite.Value).Set"], unfollowed := true, recurses := true, named := ["errors.errorType"], plainKeys := false, leaving := true, apart := false, laid := [("errors.errorType", laid_errors_errorType)] }
def FnObjectsSaid : Prop := fnObjectsRow.holds Tryz.pinned (OpenSpec.ofChange fnObjectsSpec)

/-- ITS FALSE NEIGHBOUR: 'it returns false'. Refute it at one input. -/
def fnObjectsWrong : ChangeSpec := { name := "fnObjects", fn := fun _ => fun
  | [d] => { results := [.lit (.bool false)], args := [d] }
  | _ => none }
def FnObjectsWrongFalsely : Prop := fnObjectsRow.holds Tryz.pinned (OpenSpec.ofChange fnObjectsWrong)

/- THE SECOND FORM. 'bulk': how many values and letters a reading holds, each counted each time it is reached (what is shared counts as often as it is met; a slice's spare places count too). A statement '..UptoSaid' is the law's where the arguments, and the package variables that the reading takes, are together of bulk at most 1048576: NARROWER than '..Said'. Prove '..Said' where nothing that the law and all that it calls make is longer than what came in: it says more and counts as full. Else prove '..UptoSaid'. A law counts once. -/
mutual
def uptoBulk {H : Type} : DataW H → Nat
  | .lit (.string bytes) => bytes.length + 1
  | .lit _ => 1
  | .nil => 1
  | .ptr d => uptoBulk d + 1
  | .slice elems spare => uptoBulkAll elems + uptoBulkAll spare + 1
  | .agg parts => uptoBulkAll parts + 1
  | .iface _ d => uptoBulk d + 1
  | .map entries => uptoBulkEntries entries + 1
  | .held _ => 1
def uptoBulkAll {H : Type} : List (DataW H) → Nat
  | [] => 0
  | d :: r => uptoBulk d + uptoBulkAll r
def uptoBulkEntries {H : Type} : List (Lit × DataW H) → Nat
  | [] => 0
  | x :: r => uptoBulkEntry x + uptoBulkEntries r
def uptoBulkEntry {H : Type} : Lit × DataW H → Nat
  | (.string bytes, d) => bytes.length + uptoBulk d + 1
  | (_, d) => uptoBulk d + 1
 end
def uptoSmall : (H : Type) → List (DataW H) → Bool := fun _ ds => decide (uptoBulkAll ds ≤ 1048576)
def OpenSpec.upto (s : _root_.Go.ChangeSpec) : _root_.Go.OpenSpec := { _root_.Go.OpenSpec.ofChange s with cond := some uptoSmall }

/-- 'laws.FnExactArrowObjects', WHERE WHAT IT READS IS OF BULK AT MOST 1048576: true; the input reads as it did. -/
def fnExactArrowObjectsUptoRow : OpenClaim := { program := "ytoomeimloaloaaagreatdoor", sum := "9d49622546c4c34a180b8c2ed3ad9a03ab00acb64ceaf63d55cc7492216ea1c4", func := "loop.example/partialcharts/laws.FnExactArrowObjects", spec := "fnExactArrowObjects", inPlace := ["internal/reflectlite.ValueOf", "(internal/reflectlite.Value).Type", "(internal/reflectlite.Value).IsNil", "internal/reflectlite.TypeOf", "(internal/reflectlite.Value).Elem", "(internal/reflectlite.Value).Set"], unfollowed := true, recurses := true, named := ["errors.errorType"], plainKeys := false, leaving := true, apart := false, laid := [("errors.errorType", laid_errors_errorType)], narrowed := true }
def FnExactArrowObjectsUptoSaid : Prop := fnExactArrowObjectsUptoRow.holds Tryz.pinned (OpenSpec.upto fnExactArrowObjectsSpec)

/-- 'laws.FnExactArrowParts', WHERE WHAT IT READS IS OF BULK AT MOST 1048576: true; the input reads as it did. -/
def fnExactArrowPartsUptoRow : OpenClaim := { program := "ytoomeimloaloaaagreatdoor", sum := "9d49622546c4c34a180b8c2ed3ad9a03ab00acb64ceaf63d55cc7492216ea1c4", func := "loop.example/partialcharts/laws.FnExactArrowParts", spec := "fnExactArrowParts", inPlace := ["internal/reflectlite.ValueOf", "(internal/reflectlite.Value).Type", "(internal/reflectlite.Value).IsNil", "internal/reflectlite.TypeOf", "(internal/reflectlite.Value).Elem", "(internal/reflectlite.Value).Set"], unfollowed := true, recurses := true, named := ["errors.errorType"], plainKeys := false, leaving := true, apart := false, laid := [("errors.errorType", laid_errors_errorType)], narrowed := true }
def FnExactArrowPartsUptoSaid : Prop := fnExactArrowPartsUptoRow.holds Tryz.pinned (OpenSpec.upto fnExactArrowPartsSpec)

/-- 'laws.FnExactArrowLocal', WHERE WHAT IT READS IS OF BULK AT MOST 1048576: true; the input reads as it did. -/
def fnExactArrowLocalUptoRow : OpenClaim := { program := "ytoomeimloaloaaagreatdoor", sum := "9d49622546c4c34a180b8c2ed3ad9a03ab00acb64ceaf63d55cc7492216ea1c4", func := "loop.example/partialcharts/laws.FnExactArrowLocal", spec := "fnExactArrowLocal", inPlace := ["internal/reflectlite.ValueOf", "(internal/reflectlite.Value).Type", "(internal/reflectlite.Value).IsNil", "internal/reflectlite.TypeOf", "(internal/reflectlite.Value).Elem", "(internal/reflectlite.Value).Set"], unfollowed := true, recurses := true, named := ["errors.errorType"], plainKeys := false, leaving := true, apart := false, laid := [("errors.errorType", laid_errors_errorType)], narrowed := true }
def FnExactArrowLocalUptoSaid : Prop := fnExactArrowLocalUptoRow.holds Tryz.pinned (OpenSpec.upto fnExactArrowLocalSpec)

/-- 'laws.FnExactArrowFrom', WHERE WHAT IT READS IS OF BULK AT MOST 1048576: true; the input reads as it did. -/
def fnExactArrowFromUptoRow : OpenClaim := { program := "ytoomeimloaloaaagreatdoor", sum := "9d49622546c4c34a180b8c2ed3ad9a03ab00acb64ceaf63d55cc7492216ea1c4", func := "loop.example/partialcharts/laws.FnExactArrowFrom", spec := "fnExactArrowFrom", inPlace := ["internal/reflectlite.ValueOf", "(internal/reflectlite.Value).Type", "(internal/reflectlite.Value).IsNil", "internal/reflectlite.TypeOf", "(internal/reflectlite.Value).Elem", "(internal/reflectlite.Value).Set"], unfollowed := true, recurses := true, named := ["errors.errorType"], plainKeys := false, leaving := true, apart := false, laid := [("errors.errorType", laid_errors_errorType)], narrowed := true }
def FnExactArrowFromUptoSaid : Prop := fnExactArrowFromUptoRow.holds Tryz.pinned (OpenSpec.upto fnExactArrowFromSpec)

/-- 'laws.FnExactGermSame', WHERE WHAT IT READS IS OF BULK AT MOST 1048576: true; the input reads as it did. -/
def fnExactGermSameUptoRow : OpenClaim := { program := "ytoomeimloaloaaagreatdoor", sum := "9d49622546c4c34a180b8c2ed3ad9a03ab00acb64ceaf63d55cc7492216ea1c4", func := "loop.example/partialcharts/laws.FnExactGermSame", spec := "fnExactGermSame", inPlace := ["internal/reflectlite.ValueOf", "(internal/reflectlite.Value).Type", "(internal/reflectlite.Value).IsNil", "internal/reflectlite.TypeOf", "(internal/reflectlite.Value).Elem", "(internal/reflectlite.Value).Set"], unfollowed := true, recurses := true, named := ["errors.errorType"], plainKeys := false, leaving := true, apart := false, laid := [("errors.errorType", laid_errors_errorType)], narrowed := true }
def FnExactGermSameUptoSaid : Prop := fnExactGermSameUptoRow.holds Tryz.pinned (OpenSpec.upto fnExactGermSameSpec)

/-- 'laws.FnExactGermCount', WHERE WHAT IT READS IS OF BULK AT MOST 1048576: true; the input reads as it did. -/
def fnExactGermCountUptoRow : OpenClaim := { program := "ytoomeimloaloaaagreatdoor", sum := "9d49622546c4c34a180b8c2ed3ad9a03ab00acb64ceaf63d55cc7492216ea1c4", func := "loop.example/partialcharts/laws.FnExactGermCount", spec := "fnExactGermCount", inPlace := ["internal/reflectlite.ValueOf", "(internal/reflectlite.Value).Type", "(internal/reflectlite.Value).IsNil", "internal/reflectlite.TypeOf", "(internal/reflectlite.Value).Elem", "(internal/reflectlite.Value).Set", "(*sync.WaitGroup).Add", "internal/race.ReleaseMerge", "internal/race.Disable", "internal/race.Enable", "internal/synctest.IsInBubble", "internal/synctest.Associate[sync.WaitGroup]", "sync.fatal", "sync/atomic.OrUint64", "sync/atomic.AddUint64", "internal/race.Read", "sync/atomic.LoadUint64", "sync/atomic.StoreUint64", "internal/synctest.Disassociate[sync.WaitGroup]", "sync.runtime_Semrelease", "(*sync.WaitGroup).Done", "(*sync.WaitGroup).Wait", "internal/race.Acquire", "internal/synctest.IsAssociated[sync.WaitGroup]", "sync/atomic.CompareAndSwapUint64", "internal/race.Write", "sync.runtime_SemacquireWaitGroup"], unfollowed := true, recurses := true, named := ["errors.errorType"], plainKeys := false, leaving := true, apart := false, laid := [("errors.errorType", laid_errors_errorType)], narrowed := true }
def FnExactGermCountUptoSaid : Prop := fnExactGermCountUptoRow.holds Tryz.pinned (OpenSpec.upto fnExactGermCountSpec)

/-- 'laws.FnExactGermPlaces', WHERE WHAT IT READS IS OF BULK AT MOST 1048576: true; the input reads as it did. -/
def fnExactGermPlacesUptoRow : OpenClaim := { program := "ytoomeimloaloaaagreatdoor", sum := "9d49622546c4c34a180b8c2ed3ad9a03ab00acb64ceaf63d55cc7492216ea1c4", func := "loop.example/partialcharts/laws.FnExactGermPlaces", spec := "fnExactGermPlaces", inPlace := ["internal/reflectlite.ValueOf", "(internal/reflectlite.Value).Type", "(internal/reflectlite.Value).IsNil", "internal/reflectlite.TypeOf", "(internal/reflectlite.Value).Elem", "(internal/reflectlite.Value).Set"], unfollowed := true, recurses := true, named := ["errors.errorType"], plainKeys := false, leaving := true, apart := false, laid := [("errors.errorType", laid_errors_errorType)], narrowed := true }
def FnExactGermPlacesUptoSaid : Prop := fnExactGermPlacesUptoRow.holds Tryz.pinned (OpenSpec.upto fnExactGermPlacesSpec)

/-- 'laws.FnObjects', WHERE WHAT IT READS IS OF BULK AT MOST 1048576: true; the input reads as it did. -/
def fnObjectsUptoRow : OpenClaim := { program := "ytoomeimloaloaaagreatdoor", sum := "9d49622546c4c34a180b8c2ed3ad9a03ab00acb64ceaf63d55cc7492216ea1c4", func := "loop.example/partialcharts/laws.FnObjects", spec := "fnObjects", inPlace := ["internal/reflectlite.ValueOf", "(internal/reflectlite.Value).Type", "(internal/reflectlite.Value).IsNil", "internal/reflectlite.TypeOf", "(internal/reflectlite.Value).Elem", "(internal/reflectlite.Value).Set"], unfollowed := true, recurses := true, named := ["errors.errorType"], plainKeys := false, leaving := true, apart := false, laid := [("errors.errorType", laid_errors_errorType)], narrowed := true }
def FnObjectsUptoSaid : Prop := fnObjectsUptoRow.holds Tryz.pinned (OpenSpec.upto fnObjectsSpec)

end Rows
end Go.Proofs.YtoomeimloaloaaaGreatDoor
