/-
  NARROWER THAN 'FOR EVERY INPUT', by the rows' own cells (each row's printed sentence says how): FnSemigroup: laid · FnSemigroupOf: laid · FnExactSemigroupOf: laid.
  DERIVED. THE GIVEN ROWS OF THIS SEAT. 3 by the template 'for every input the law returns true; each argument reads behind the call as it read before'; 0 by the template 'total and deterministic' (their statements: YtlnbglaminaojaaDoorTotals.lean).
  GIVEN WITH THE SEED: the statements are not yours to turn. If you find one false, say at which input.
  Laid BY PROGRAM, IN A SANDBOX (cutbox-rows.mjs): the forced cells as the released guide's own fill.sh prints them over the translation 7ccc43141a29f237… (all of the seat's roots in one cut). By AI agents, Wed Nov 11 2026. No macro, syntax, notation, axiom, sorry.
-/
import Derived.Test.YtlnbglaminaojaaDoorChecked
import GoSem.Claim
import GoSem.ClaimJoined
import GoSem.ClaimMapViews
import Derived.JoinedTies
import Derived.KernelRfl
namespace Go.Proofs.YtlnbglaminaojaaDoor
/- THE CELL 'sum', in the pinned program and in every row, IS THE sha256 OF THE DUMP (.gsa) THAT YtlnbglaminaojaaDoorProg.lean LOADS. Nothing in Lean hashes anything: it is a label: what it is worth is what the hold of that sum in a sandbox is worth. -/
noncomputable def Tryd.pinned : Pinned := { name := "ytlnbglaminaojaadoor", sum := "7ccc43141a29f23710a3a4f3c9d353ff07a9175e990f7a7ce78c8aa6cde40867", checked := Tryd.checked }
namespace Rows
def none {H : Type} : Left H := { results := [], args := [] }

/- WHAT THE LISTED PACKAGE-LEVEL VARIABLES READ AS WHEN THE CALL BEGINS. Each datum BY PROGRAM (the guide's laid-datum.mjs) off the statement by which the dump's own 'gosem.cut.vars' lays the variable. In a bare row this is a premise. The card (YtlnbglaminaojaaDoorCards.lean) ties it to the program's text. -/
def laid_errors_errorType {H : Type} : DataW H := .iface "internal/reflectlite.rtype" (.agg [.ptr (.lit (.string [101, 114, 114, 111, 114]))])

/-- 'laws.FnSemigroup': WHATEVER THE INPUT: true; the input reads as it did. -/
def fnSemigroupSpec : ChangeSpec := { name := "fnSemigroup", fn := fun _ => fun
  | [d] => { results := [.lit (.bool true)], args := [d] }
  | _ => none }
def fnSemigroupRow : OpenClaim := { program := "ytlnbglaminaojaadoor", sum := "7ccc43141a29f23710a3a4f3c9d353ff07a9175e990f7a7ce78c8aa6cde40867", func := "loop.example/partialcharts/laws.FnSemigroup", spec := "fnSemigroup", inPlace := ["internal/reflectlite.ValueOf", "(internal/reflectlite.Value).Type", "(internal/reflectlite.Value).IsNil", "internal/reflectlite.TypeOf", "(internal/reflectlite.Value).Elem", "(internal/reflectlite.Value).Set"], unfollowed := true, recurses := true, named := ["errors.errorType"], plainKeys := false, apart := false, laid := [("errors.errorType", laid_errors_errorType)] }
def FnSemigroupSaid : Prop := fnSemigroupRow.holds Tryd.pinned (OpenSpec.ofChange fnSemigroupSpec)

/-- ITS FALSE NEIGHBOUR: 'it returns false'. Refute it at one input. -/
def fnSemigroupWrong : ChangeSpec := { name := "fnSemigroup", fn := fun _ => fun
  | [d] => { results := [.lit (.bool false)], args := [d] }
  | _ => none }
def FnSemigroupWrongFalsely : Prop := fnSemigroupRow.holds Tryd.pinned (OpenSpec.ofChange fnSemigroupWrong)

/-- 'laws.FnSemigroupOf': WHATEVER THE INPUT: true; the input reads as it did. -/
def fnSemigroupOfSpec : ChangeSpec := { name := "fnSemigroupOf", fn := fun _ => fun
  | [d] => { results := [.lit (.bool true)], args := [d] }
  | _ => none }
def fnSemigroupOfRow : OpenClaim := { program := "ytlnbglaminaojaadoor", sum := "7ccc43141a29f23710a3a4f3c9d353ff07a9175e990f7a7ce78c8aa6cde40867", func := "loop.example/partialcharts/laws.FnSemigroupOf", spec := "fnSemigroupOf", inPlace := ["internal/reflectlite.ValueOf", "(internal/reflectlite.Value).Type", "(internal/reflectlite.Value).IsNil", "internal/reflectlite.TypeOf", "(internal/reflectlite.Value).Elem", "(internal/reflectlite.Value).Set"], unfollowed := true, recurses := true, named := ["errors.errorType"], plainKeys := false, apart := false, laid := [("errors.errorType", laid_errors_errorType)] }
def FnSemigroupOfSaid : Prop := fnSemigroupOfRow.holds Tryd.pinned (OpenSpec.ofChange fnSemigroupOfSpec)

/-- ITS FALSE NEIGHBOUR: 'it returns false'. Refute it at one input. -/
def fnSemigroupOfWrong : ChangeSpec := { name := "fnSemigroupOf", fn := fun _ => fun
  | [d] => { results := [.lit (.bool false)], args := [d] }
  | _ => none }
def FnSemigroupOfWrongFalsely : Prop := fnSemigroupOfRow.holds Tryd.pinned (OpenSpec.ofChange fnSemigroupOfWrong)

/-- 'laws.FnExactSemigroupOf': WHATEVER THE INPUT: true; the input reads as it did. -/
def fnExactSemigroupOfSpec : ChangeSpec := { name := "fnExactSemigroupOf", fn := fun _ => fun
  | [d] => { results := [.lit (.bool true)], args := [d] }
  | _ => none }
def fnExactSemigroupOfRow : OpenClaim := { program := "ytlnbglaminaojaadoor", sum := "7ccc43141a29f23710a3a4f3c9d353ff07a9175e990f7a7ce78c8aa6cde40867", func := "loop.example/partialcharts/laws.FnExactSemigroupOf", spec := "fnExactSemigroupOf", inPlace := ["internal/reflectlite.ValueOf", "(internal/reflectlite.Value).Type", "(internal/reflectlite.Value).IsNil", "internal/reflectlite.TypeOf", "(internal/reflectlite.Value).Elem", "(internal/reflectlite.Value).Set"], unfollowed := true, recurses := true, named := ["errors.errorType"], plainKeys := false, apart := false, laid := [("errors.errorType", laid_errors_errorType)] }
def FnExactSemigroupOfSaid : Prop := fnExactSemigroupOfRow.holds Tryd.pinned (OpenSpec.ofChange fnExactSemigroupOfSpec)

/-- ITS FALSE NEIGHBOUR: 'it returns false'. Refute it at one input. -/
def fnExactSemigroupOfWrong : ChangeSpec := { name := "fnExactSemigroupOf", fn := fun _ => fun
  | [d] => { results := [.lit (.bool false)], args := [d] }
  | _ => none }
def FnExactSemigroupOfWrongFalsely : Prop := fnExactSemigroupOfRow.holds Tryd.pinned (OpenSpec.ofChange fnExactSemigroupOfWrong)

/- THE SECOND FORM. 'bulk': how many values and letters a reading holds, each counted each time it is reached (what is shared counts as often as it is met; a slice's spare places count too). A statement '..UptoSaid' is the law's where the arguments, and the package variables that the reading takes, are together of bulk at most 1048576: NARROWER than '..Said'. Prove '..Said' where nothing that the law and all that it calls make is longer than what came in: it says more and counts as full. Else prove '..UptoSaid'. A law counts once. -/
mutual
def uptoBulk {H : Type} : DataW H → Nat
  | .lit (.string bytes) => bytes.length + 1
  | .lit _ => 1
  | .nil => 1
  | .ptr d => uptoBulk d + 1
  | .slice elems spare => uptoBulkAll elems + uptoBulkAll spare + 1
  | .agg parts => uptoBulkAll parts + 1
  | .iface _ d => uptoBulk d + 1
  | .map entries => uptoBulkEntries entries + 1
  | .held _ => 1
def uptoBulkAll {H : Type} : List (DataW H) → Nat
  | [] => 0
  | d :: r => uptoBulk d + uptoBulkAll r
def uptoBulkEntries {H : Type} : List (Lit × DataW H) → Nat
  | [] => 0
  | x :: r => uptoBulkEntry x + uptoBulkEntries r
def uptoBulkEntry {H : Type} : Lit × DataW H → Nat
  | (.string bytes, d) => bytes.length + uptoBulk d + 1
  | (_, d) => uptoBulk d + 1
 end
def uptoSmall : (H : Type) → List (DataW H) → Bool := fun _ ds => decide (uptoBulkAll ds ≤ 1048576)
def OpenSpec.upto (s : _root_.Go.ChangeSpec) : _root_.Go.OpenSpec := { _root_.Go.OpenSpec.ofChange s with cond := some uptoSmall }

/-- 'laws.FnSemigroup', WHERE WHAT IT READS IS OF BULK AT MOST 1048576: true; the input reads as it did. -/
def fnSemigroupUptoRow : OpenClaim := { program := "ytlnbglaminaojaadoor", sum := "7ccc43141a29f23710a3a4f3c9d353ff07a9175e990f7a7ce78c8aa6cde40867", func := "loop.example/partialcharts/laws.FnSemigroup", spec := "fnSemigroup", inPlace := ["internal/reflectlite.ValueOf", "(internal/reflectlite.Value).Type", "(internal/reflectlite.Value).IsNil", "internal/reflectlite.TypeOf", "(internal/reflectlite.Value).Elem", "(internal/reflectlite.Value).Set"], unfollowed := true, recurses := true, named := ["errors.errorType"], plainKeys := false, apart := false, laid := [("errors.errorType", laid_errors_errorType)], narrowed := true }
def FnSemigroupUptoSaid : Prop := fnSemigroupUptoRow.holds Tryd.pinned (OpenSpec.upto fnSemigroupSpec)

/-- 'laws.FnSemigroupOf', WHERE WHAT IT READS IS OF BULK AT MOST 1048576: true; the input reads as it did. -/
def fnSemigroupOfUptoRow : OpenClaim := { program := "ytlnbglaminaojaadoor", sum := "7ccc43141a29f23710a3a4f3c9d353ff07a9175e990f7a7ce78c8aa6cde40867", func := "loop.example/partialcharts/laws.FnSemigroupOf", spec := "fnSemigroupOf", inPlace := ["internal/reflectlite.ValueOf", "(internal/reflectlite.Value).Type", "(internal/reflectlite.Value).IsNil", "internal/reflectlite.TypeOf", "(internal/reflectlite.Value).Elem", "(internal/reflectlite.Value).Set"], unfollowed := true, recurses := true, named := ["errors.errorType"], plainKeys := false, apart := false, laid := [("errors.errorType", laid_errors_errorType)], narrowed := true }
def FnSemigroupOfUptoSaid : Prop := fnSemigroupOfUptoRow.holds Tryd.pinned (OpenSpec.upto fnSemigroupOfSpec)

/-- 'laws.FnExactSemigroupOf', WHERE WHAT IT READS IS OF BULK AT MOST 1048576: true; the input reads as it did. -/
def fnExactSemigroupOfUptoRow : OpenClaim := { program := "ytlnbglaminaojaadoor", sum := "7ccc43141a29f23710a3a4f3c9d353ff07a9175e990f7a7ce78c8aa6cde40867", func := "loop.example/partialcharts/laws.FnExactSemigroupOf", spec := "fnExactSemigroupOf", inPlace := ["internal/reflectlite.ValueOf", "(internal/reflectlite.Value).Type", "(internal/reflectlite.Value).IsNil", "internal/reflectlite.TypeOf", "(internal/reflectlite.Value).Elem", "(internal/reflectlite.Value).Set"], unfollowed := true, recurses := true, named := ["errors.errorType"], plainKeys := false, apart := false, laid := [("errors.errorType", laid_errors_errorType)], narrowed := true }
def FnExactSemigroupOfUptoSaid : Prop := fnExactSemigroupOfUptoRow.holds Tryd.pinned (OpenSpec.upto fnExactSemigroupOfSpec)

end Rows
end Go.Proofs.YtlnbglaminaojaaDoor
