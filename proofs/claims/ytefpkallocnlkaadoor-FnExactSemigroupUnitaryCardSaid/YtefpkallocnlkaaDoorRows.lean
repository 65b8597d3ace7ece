/-
  NARROWER THAN 'FOR EVERY INPUT', by the rows' own cells (each row's printed sentence says how): FnExactSemigroupIn: laid · FnExactSemigroupGroup: laid · FnExactSemigroupUnitary: laid · FnExactSemigroupSwaps: laid.
  DERIVED. THE GIVEN ROWS OF THIS SEAT. 4 by the template 'for every input the law returns true; each argument reads behind the call as it read before'; 0 by the template 'total and deterministic' (their statements: YtefpkallocnlkaaDoorTotals.lean).
  GIVEN WITH THE SEED: the statements are not yours to turn. If you find one false, say at which input.
  Laid BY PROGRAM, IN A SANDBOX (cutbox-rows.mjs): the forced cells as the released guide's own fill.sh prints them over the translation bee9e7e89ab974e0… (all of the seat's roots in one cut). By AI agents, Wed Nov 11 2026. No macro, syntax, notation, axiom, sorry.
-/
import Derived.Test.YtefpkallocnlkaaDoorChecked
import GoSem.Claim
import GoSem.ClaimJoined
import GoSem.ClaimMapViews
import Derived.JoinedTies
import Derived.KernelRfl
namespace Go.Proofs.YtefpkallocnlkaaDoor
/- THE CELL 'sum', in the pinned program and in every row, IS THE sha256 OF THE DUMP (.gsa) THAT YtefpkallocnlkaaDoorProg.lean LOADS. Nothing in Lean hashes anything: it is a label: what it is worth is what the hold of that sum in a sandbox is worth. -/
noncomputable def Tryd.pinned : Pinned := { name := "ytefpkallocnlkaadoor", sum := "bee9e7e89ab974e0abe501c1ca6f8ba099dfe88d7d31388ea46edd591183ece5", checked := Tryd.checked }
namespace Rows
def none {H : Type} : Left H := { results := [], args := [] }

/- WHAT THE LISTED PACKAGE-LEVEL VARIABLES READ AS WHEN THE CALL BEGINS. Each datum BY PROGRAM (the guide's laid-datum.mjs) off the statement by which the dump's own 'gosem.cut.vars' lays the variable. In a bare row this is a premise. The card (YtefpkallocnlkaaDoorCards.lean) ties it to the program's text. -/
def laid_errors_errorType {H : Type} : DataW H := .iface "internal/reflectlite.rtype" (.agg [.ptr (.lit (.string [101, 114, 114, 111, 114]))])

/-- 'laws.FnExactSemigroupIn': WHATEVER THE INPUT: true; the input reads as it did. -/
def fnExactSemigroupInSpec : ChangeSpec := { name := "fnExactSemigroupIn", fn := fun _ => fun
  | [d] => { results := [.lit (.bool true)], args := [d] }
  | _ => none }
def fnExactSemigroupInRow : OpenClaim := { program := "ytefpkallocnlkaadoor", sum := "bee9e7e89ab974e0abe501c1ca6f8ba099dfe88d7d31388ea46edd591183ece5", func := "loop.example/partialcharts/laws.FnExactSemigroupIn", spec := "fnExactSemigroupIn", inPlace := ["internal/reflectlite.ValueOf", "(internal/reflectlite.Value).Type", "(internal/reflectlite.Value).IsNil", "internal/reflectlite.TypeOf", "(internal/reflectlite.Value).Elem", "(internal/reflectlite.Value).Set"], unfollowed := true, recurses := true, named := ["errors.errorType"], plainKeys := false, apart := false, laid := [("errors.errorType", laid_errors_errorType)] }
def FnExactSemigroupInSaid : Prop := fnExactSemigroupInRow.holds Tryd.pinned (OpenSpec.ofChange fnExactSemigroupInSpec)

/-- ITS FALSE NEIGHBOUR: 'it returns false'. Refute it at one input. -/
def fnExactSemigroupInWrong : ChangeSpec := { name := "fnExactSemigroupIn", fn := fun _ => fun
  | [d] => { results := [.lit (.bool false)], args := [d] }
  | _ => none }
def FnExactSemigroupInWrongFalsely : Prop := fnExactSemigroupInRow.holds Tryd.pinned (OpenSpec.ofChange fnExactSemigroupInWrong)

/-- 'laws.FnExactSemigroupGroup': WHATEVER THE INPUT: true; the input reads as it did. -/
def fnExactSemigroupGroupSpec : ChangeSpec := { name := "fnExactSemigroupGroup", fn := fun _ => fun
  | [d] => { results := [.lit (.bool true)], args := [d] }
  | _ => none }
def fnExactSemigroupGroupRow : OpenClaim := { program := "ytefpkallocnlkaadoor", sum := "bee9e7e89ab974e0abe501c1ca6f8ba099dfe88d7d31388ea46edd591183ece5", func := "loop.example/partialcharts/laws.FnExactSemigroupGroup", spec := "fnExactSemigroupGroup", inPlace := ["internal/reflectlite.ValueOf", "(internal/reflectlite.Value).Type", "(internal/reflectlite.Value).IsNil", "internal/reflectlite.TypeOf", "(internal/reflectlite.Value).Elem", "(internal/reflectlite.Value).Set"], unfollowed := true, recurses := true, named := ["errors.errorType"], plainKeys := false, apart := false, laid := [("errors.errorType", laid_errors_errorType)] }
def FnExactSemigroupGroupSaid : Prop := fnExactSemigroupGroupRow.holds Tryd.pinned (OpenSpec.ofChange fnExactSemigroupGroupSpec)

/-- ITS FALSE NEIGHBOUR: 'it returns false'. Refute it at one input. -/
def fnExactSemigroupGroupWrong : ChangeSpec := { name := "fnExactSemigroupGroup", fn := fun _ => fun
  | [d] => { results := [.lit (.bool false)], args := [d] }
  | _ => none }
def FnExactSemigroupGroupWrongFalsely : Prop := fnExactSemigroupGroupRow.holds Tryd.pinned (OpenSpec.ofChange fnExactSemigroupGroupWrong)

/-- 'laws.FnExactSemigroupUnitary': WHATEVER THE INPUT: true; the input reads as it did. -/
def fnExactSemigroupUnitarySpec : ChangeSpec := { name := "fnExactSemigroupUnitary", fn := fun _ => fun
  | [d] => { results := [.lit (.bool true)], args := [d] }
  | _ => none }
def fnExactSemigroupUnitaryRow : OpenClaim := { program := "ytefpkallocnlkaadoor", sum := "bee9e7e89ab974e0abe501c1ca6f8ba099dfe88d7d31388ea46edd591183ece5", func := "loop.example/partialcharts/laws.FnExactSemigroupUnitary", spec := "fnExactSemigroupUnitary", inPlace := ["internal/reflectlite.ValueOf", "(internal/reflectlite.Value).Type", "(internal/reflectlite.Value).IsNil", "internal/reflectlite.TypeOf", "(internal/reflectlite.Value).Elem", "(internal/reflectlite.Value).Set"], unfollowed := true, recurses := true, named := ["errors.errorType"], plainKeys := false, apart := false, laid := [("errors.errorType", laid_errors_errorType)] }
def FnExactSemigroupUnitarySaid : Prop := fnExactSemigroupUnitaryRow.holds Tryd.pinned (OpenSpec.ofChange fnExactSemigroupUnitarySpec)

/-- ITS FALSE NEIGHBOUR: 'it returns false'. Refute it at one input. -/
def fnExactSemigroupUnitaryWrong : ChangeSpec := { name := "fnExactSemigroupUnitary", fn := fun _ => fun
  | [d] => { results := [.lit (.bool false)], args := [d] }
  | _ => none }
def FnExactSemigroupUnitaryWrongFalsely : Prop := fnExactSemigroupUnitaryRow.holds Tryd.pinned (OpenSpec.ofChange fnExactSemigroupUnitaryWrong)

/-- 'laws.FnExactSemigroupSwaps': WHATEVER THE INPUT: true; the input reads as it did. -/
def fnExactSemigroupSwapsSpec : ChangeSpec := { name := "fnExactSemigroupSwaps", fn := fun _ => fun
  | [d] => { results := [.lit (.bool true)], args := [d] }
  | _ => none }
def fnExactSemigroupSwapsRow : OpenClaim := { program := "ytefpkallocnlkaadoor", sum := "bee9e7e89ab974e0abe501c1ca6f8ba099dfe88d7d31388ea46edd591183ece5", func := "loop.example/partialcharts/laws.FnExactSemigroupSwaps", spec := "fnExactSemigroupSwaps", inPlace := ["internal/reflectlite.ValueOf", "(internal/reflectlite.Value).Type", "(internal/reflectlite.Value).IsNil", "internal/reflectlite.TypeOf", "(internal/reflectlite.Value).Elem", "(internal/reflectlite.Value).Set"], unfollowed := true, recurses := true, named := ["errors.errorType"], plainKeys := false, apart := false, laid := [("errors.errorType", laid_errors_errorType)] }
def FnExactSemigroupSwapsSaid : Prop := fnExactSemigroupSwapsRow.holds Tryd.pinned (OpenSpec.ofChange fnExactSemigroupSwapsSpec)

/-- ITS FALSE NEIGHBOUR: 'it returns false'. Refute it at one input. -/
def fnExactSemigroupSwapsWrong : ChangeSpec := { name := "fnExactSemigroupSwaps", fn := fun _ => fun
  | [d] => { results := [.lit (.bool false)], args := [d] }
  | _ => none }
def FnExactSemigroupSwapsWrongFalsely : Prop := fnExactSemigroupSwapsRow.holds Tryd.pinned (OpenSpec.ofChange fnExactSemigroupSwapsWrong)

/- THE SECOND FORM. 'bulk': how many values and letters a reading holds, each counted each time it is reached (what is shared counts as often as it is met; a slice's spare places count too). A statement '..UptoSaid' is the law's where the arguments, and the package variables that the reading takes, are together of bulk at most 1048576: NARROWER than '..Said'. Prove '..Said' where nothing that the law and all that it calls make is longer than what came in: it says more and counts as full. Else prove '..UptoSaid'. A law counts once. -/
mutual
def uptoBulk {H : Type} : DataW H → Nat
  | .lit (.string bytes) => bytes.length + 1
  | .lit _ => 1
  | .nil => 1
  | .ptr d => uptoBulk d + 1
  | .slice elems spare => uptoBulkAll elems + uptoBulkAll spare + 1
  | .agg parts => uptoBulkAll parts + 1
  | .iface _ d => uptoBulk d + 1
  | .map entries => uptoBulkEntries entries + 1
  | .held _ => 1
def uptoBulkAll {H : Type} : List (DataW H) → Nat
  | [] => 0
  | d :: r => uptoBulk d + uptoBulkAll r
def uptoBulkEntries {H : Type} : List (Lit × DataW H) → Nat
  | [] => 0
  | x :: r => uptoBulkEntry x + uptoBulkEntries r
def uptoBulkEntry {H : Type} : Lit × DataW H → Nat
  | (.string bytes, d) => bytes.length + uptoBulk d + 1
  | (_, d) => uptoBulk d + 1
 end
def uptoSmall : (H : Type) → List (DataW H) → Bool := fun _ ds => decide (uptoBulkAll ds ≤ 1048576)
def OpenSpec.upto (s : _root_.Go.ChangeSpec) : _root_.Go.OpenSpec := { _root_.Go.OpenSpec.ofChange s with cond := some uptoSmall }

/-- 'laws.FnExactSemigroupIn', WHERE WHAT IT READS IS OF BULK AT MOST 1048576: true; the input reads as it did. -/
def fnExactSemigroupInUptoRow : OpenClaim := { program := "ytefpkallocnlkaadoor", sum := "bee9e7e89ab974e0abe501c1ca6f8ba099dfe88d7d31388ea46edd591183ece5", func := "loop.example/partialcharts/laws.FnExactSemigroupIn", spec := "fnExactSemigroupIn", inPlace := ["internal/reflectlite.ValueOf", "(internal/reflectlite.Value).Type", "(internal/reflectlite.Value).IsNil", "internal/reflectlite.TypeOf", "(internal/reflectlite.Value).Elem", "(internal/reflectlite.Value).Set"], unfollowed := true, recurses := true, named := ["errors.errorType"], plainKeys := false, apart := false, laid := [("errors.errorType", laid_errors_errorType)], narrowed := true }
def FnExactSemigroupInUptoSaid : Prop := fnExactSemigroupInUptoRow.holds Tryd.pinned (OpenSpec.upto fnExactSemigroupInSpec)

/-- 'laws.FnExactSemigroupGroup', WHERE WHAT IT READS IS OF BULK AT MOST 1048576: true; the input reads as it did. -/
def fnExactSemigroupGroupUptoRow : OpenClaim := { program := "ytefpkallocnlkaadoor", sum := "bee9e7e89ab974e0abe501c1ca6f8ba099dfe88d7d31388ea46edd591183ece5", func := "loop.example/partialcharts/laws.FnExactSemigroupGroup", spec := "fnExactSemigroupGroup", inPlace := ["internal/reflectlite.ValueOf", "(internal/reflectlite.Value).Type", "(internal/reflectlite.Value).IsNil", "internal/reflectlite.TypeOf", "(internal/reflectlite.Value).Elem", "(internal/reflectlite.Value).Set"], unfollowed := true, recurses := true, named := ["errors.errorType"], plainKeys := false, apart := false, laid := [("errors.errorType", laid_errors_errorType)], narrowed := true }
def FnExactSemigroupGroupUptoSaid : Prop := fnExactSemigroupGroupUptoRow.holds Tryd.pinned (OpenSpec.upto fnExactSemigroupGroupSpec)

/-- 'laws.FnExactSemigroupUnitary', WHERE WHAT IT READS IS OF BULK AT MOST 1048576: true; the input reads as it did. -/
def fnExactSemigroupUnitaryUptoRow : OpenClaim := { program := "ytefpkallocnlkaadoor", sum := "bee9e7e89ab974e0abe501c1ca6f8ba099dfe88d7d31388ea46edd591183ece5", func := "loop.example/partialcharts/laws.FnExactSemigroupUnitary", spec := "fnExactSemigroupUnitary", inPlace := ["internal/reflectlite.ValueOf", "(internal/reflectlite.Value).Type", "(internal/reflectlite.Value).IsNil", "internal/reflectlite.TypeOf", "(internal/reflectlite.Value).Elem", "(internal/reflectlite.Value).Set"], unfollowed := true, recurses := true, named := ["errors.errorType"], plainKeys := false, apart := false, laid := [("errors.errorType", laid_errors_errorType)], narrowed := true }
def FnExactSemigroupUnitaryUptoSaid : Prop := fnExactSemigroupUnitaryUptoRow.holds Tryd.pinned (OpenSpec.upto fnExactSemigroupUnitarySpec)

/-- 'laws.FnExactSemigroupSwaps', WHERE WHAT IT READS IS OF BULK AT MOST 1048576: true; the input reads as it did. -/
def fnExactSemigroupSwapsUptoRow : OpenClaim := { program := "ytefpkallocnlkaadoor", sum := "bee9e7e89ab974e0abe501c1ca6f8ba099dfe88d7d31388ea46edd591183ece5", func := "loop.example/partialcharts/laws.FnExactSemigroupSwaps", spec := "fnExactSemigroupSwaps", inPlace := ["internal/reflectlite.ValueOf", "(internal/reflectlite.Value).Type", "(internal/reflectlite.Value).IsNil", "internal/reflectlite.TypeOf", "(internal/reflectlite.Value).Elem", "(internal/reflectlite.Value).Set"], unfollowed := true, recurses := true, named := ["errors.errorType"], plainKeys := false, apart := false, laid := [("errors.errorType", laid_errors_errorType)], narrowed := true }
def FnExactSemigroupSwapsUptoSaid : Prop := fnExactSemigroupSwapsUptoRow.holds Tryd.pinned (OpenSpec.upto fnExactSemigroupSwapsSpec)

end Rows
end Go.Proofs.YtefpkallocnlkaaDoor
