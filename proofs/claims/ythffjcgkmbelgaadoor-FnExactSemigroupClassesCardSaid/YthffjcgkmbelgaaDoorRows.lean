/-
  NARROWER THAN 'FOR EVERY INPUT', by the rows' own cells (each row's printed sentence says how): FnExactSemigroupIdems: laid · FnExactSemigroupBottom: laid · FnExactSemigroupTops: laid · FnExactSemigroupAbove: laid · FnExactSemigroupSwaps: laid · FnExactSemigroupClasses: laid · FnExactSemigroupIdeal: laid · FnExactSemigroupOf: laid.
  DERIVED. THE GIVEN ROWS OF THIS SEAT. 8 by the template 'for every input the law returns true; each argument reads behind the call as it read before'; 0 by the template 'total and deterministic' (their statements: YthffjcgkmbelgaaDoorTotals.lean).
  GIVEN WITH THE SEED: the statements are not yours to turn. If you find one false, say at which input.
  Laid BY PROGRAM, IN A SANDBOX (cutbox-rows.mjs): the forced cells as the released guide's own fill.sh prints them over the translation d610232c4e87cf1f… (all of the seat's roots in one cut). By AI agents, Wed Nov 11 2026. No macro, syntax, notation, axiom, sorry.
-/
import Derived.Test.YthffjcgkmbelgaaDoorChecked
import GoSem.Claim
import GoSem.ClaimJoined
import GoSem.ClaimMapViews
import Derived.JoinedTies
import Derived.KernelRfl
namespace Go.Proofs.YthffjcgkmbelgaaDoor
/- THE CELL 'sum', in the pinned program and in every row, IS THE sha256 OF THE DUMP (.gsa) THAT YthffjcgkmbelgaaDoorProg.lean LOADS. Nothing in Lean hashes anything: it is a label: what it is worth is what the hold of that sum in a sandbox is worth. -/
noncomputable def Tryd.pinned : Pinned := { name := "ythffjcgkmbelgaadoor", sum := "d610232c4e87cf1fb229931a146f4ddd7c60380038735eb42ab39144eba26620", checked := Tryd.checked }
namespace Rows
def none {H : Type} : Left H := { results := [], args := [] }

/- WHAT THE LISTED PACKAGE-LEVEL VARIABLES READ AS WHEN THE CALL BEGINS. Each datum BY PROGRAM (the guide's laid-datum.mjs) off the statement by which the dump's own 'gosem.cut.vars' lays the variable. In a bare row this is a premise. The card (YthffjcgkmbelgaaDoorCards.lean) ties it to the program's text. -/
def laid_errors_errorType {H : Type} : DataW H := .iface "internal/reflectlite.rtype" (.agg [.ptr (.lit (.string [101, 114, 114, 111, 114]))])

/-- 'laws.FnExactSemigroupIdems': WHATEVER THE INPUT: true; the input reads as it did. -/
def fnExactSemigroupIdemsSpec : ChangeSpec := { name := "fnExactSemigroupIdems", fn := fun _ => fun
  | [d] => { results := [.lit (.bool true)], args := [d] }
  | _ => none }
def fnExactSemigroupIdemsRow : OpenClaim := { program := "ythffjcgkmbelgaadoor", sum := "d610232c4e87cf1fb229931a146f4ddd7c60380038735eb42ab39144eba26620", func := "loop.example/partialcharts/laws.FnExactSemigroupIdems", spec := "fnExactSemigroupIdems", inPlace := ["internal/reflectlite.ValueOf", "(internal/reflectlite.Value).Type", "(internal/reflectlite.Value).IsNil", "internal/reflectlite.TypeOf", "(internal/reflectlite.Value).Elem", "(internal/reflectlite.Value).Set"], unfollowed := true, recurses := true, named := ["errors.errorType"], plainKeys := false, apart := false, laid := [("errors.errorType", laid_errors_errorType)] }
def FnExactSemigroupIdemsSaid : Prop := fnExactSemigroupIdemsRow.holds Tryd.pinned (OpenSpec.ofChange fnExactSemigroupIdemsSpec)

/-- ITS FALSE NEIGHBOUR: 'it returns false'. Refute it at one input. -/
def fnExactSemigroupIdemsWrong : ChangeSpec := { name := "fnExactSemigroupIdems", fn := fun _ => fun
  | [d] => { results := [.lit (.bool false)], args := [d] }
  | _ => none }
def FnExactSemigroupIdemsWrongFalsely : Prop := fnExactSemigroupIdemsRow.holds Tryd.pinned (OpenSpec.ofChange fnExactSemigroupIdemsWrong)

/-- 'laws.FnExactSemigroupBottom': WHATEVER THE INPUT: true; the input reads as it did. -/
def fnExactSemigroupBottomSpec : ChangeSpec := { name := "fnExactSemigroupBottom", fn := fun _ => fun
  | [d] => { results := [.lit (.bool true)], args := [d] }
  | _ => none }
def fnExactSemigroupBottomRow : OpenClaim := { program := "ythffjcgkmbelgaadoor", sum := "d610232c4e87cf1fb229931a146f4ddd7c60380038735eb42ab39144eba26620", func := "loop.example/partialcharts/laws.FnExactSemigroupBottom", spec := "fnExactSemigroupBottom", inPlace := ["internal/reflectlite.ValueOf", "(internal/reflectlite.Value).Type", "(internal/reflectlite.Value).IsNil", "internal/reflectlite.TypeOf", "(internal/reflectlite.Value).Elem", "(internal/reflectlite.Value).Set"], unfollowed := true, recurses := true, named := ["errors.errorType"], plainKeys := false, apart := false, laid := [("errors.errorType", laid_errors_errorType)] }
def FnExactSemigroupBottomSaid : Prop := fnExactSemigroupBottomRow.holds Tryd.pinned (OpenSpec.ofChange fnExactSemigroupBottomSpec)

/-- ITS FALSE NEIGHBOUR: 'it returns false'. Refute it at one input. -/
def fnExactSemigroupBottomWrong : ChangeSpec := { name := "fnExactSemigroupBottom", fn := fun _ => fun
  | [d] => { results := [.lit (.bool false)], args := [d] }
  | _ => none }
def FnExactSemigroupBottomWrongFalsely : Prop := fnExactSemigroupBottomRow.holds Tryd.pinned (OpenSpec.ofChange fnExactSemigroupBottomWrong)

/-- 'laws.FnExactSemigroupTops': WHATEVER THE INPUT: true; the input reads as it did. -/
def fnExactSemigroupTopsSpec : ChangeSpec := { name := "fnExactSemigroupTops", fn := fun _ => fun
  | [d] => { results := [.lit (.bool true)], args := [d] }
  | _ => none }
def fnExactSemigroupTopsRow : OpenClaim := { program := "ythffjcgkmbelgaadoor", sum := "d610232c4e87cf1fb229931a146f4ddd7c60380038735eb42ab39144eba26620", func := "loop.example/partialcharts/laws.FnExactSemigroupTops", spec := "fnExactSemigroupTops", inPlace := ["internal/reflectlite.ValueOf", "(internal/reflectlite.Value).Type", "(internal/reflectlite.Value).IsNil", "internal/reflectlite.TypeOf", "(internal/reflectlite.Value).Elem", "(internal/reflectlite.Value).Set"], unfollowed := true, recurses := true, named := ["errors.errorType"], plainKeys := false, apart := false, laid := [("errors.errorType", laid_errors_errorType)] }
def FnExactSemigroupTopsSaid : Prop := fnExactSemigroupTopsRow.holds Tryd.pinned (OpenSpec.ofChange fnExactSemigroupTopsSpec)

/-- ITS FALSE NEIGHBOUR: 'it returns false'. Refute it at one input. -/
def fnExactSemigroupTopsWrong : ChangeSpec := { name := "fnExactSemigroupTops", fn := fun _ => fun
  | [d] => { results := [.lit (.bool false)], args := [d] }
  | _ => none }
def FnExactSemigroupTopsWrongFalsely : Prop := fnExactSemigroupTopsRow.holds Tryd.pinned (OpenSpec.ofChange fnExactSemigroupTopsWrong)

/-- 'laws.FnExactSemigroupAbove': WHATEVER THE INPUT: true; the input reads as it did. -/
def fnExactSemigroupAboveSpec : ChangeSpec := { name := "fnExactSemigroupAbove", fn := fun _ => fun
  | [d1, d2] => { results := [.lit (.bool true)], args := [d1, d2] }
  | _ => none }
def fnExactSemigroupAboveRow : OpenClaim := { program := "ythffjcgkmbelgaadoor", sum := "d610232c4e87cf1fb229931a146f4ddd7c60380038735eb42ab39144eba26620", func := "loop.example/partialcharts/laws.FnExactSemigroupAbove", spec := "fnExactSemigroupAbove", inPlace := ["internal/reflectlite.ValueOf", "(internal/reflectlite.Value).Type", "(internal/reflectlite.Value).IsNil", "internal/reflectlite.TypeOf", "(internal/reflectlite.Value).Elem", "(internal/reflectlite.Value).Set"], unfollowed := true, recurses := true, named := ["errors.errorType"], plainKeys := false, apart := false, laid := [("errors.errorType", laid_errors_errorType)] }
def FnExactSemigroupAboveSaid : Prop := fnExactSemigroupAboveRow.holds Tryd.pinned (OpenSpec.ofChange fnExactSemigroupAboveSpec)

/-- ITS FALSE NEIGHBOUR: 'it returns false'. Refute it at one input. -/
def fnExactSemigroupAboveWrong : ChangeSpec := { name := "fnExactSemigroupAbove", fn := fun _ => fun
  | [d1, d2] => { results := [.lit (.bool false)], args := [d1, d2] }
  | _ => none }
def FnExactSemigroupAboveWrongFalsely : Prop := fnExactSemigroupAboveRow.holds Tryd.pinned (OpenSpec.ofChange fnExactSemigroupAboveWrong)

/-- 'laws.FnExactSemigroupSwaps': WHATEVER THE INPUT: true; the input reads as it did. -/
def fnExactSemigroupSwapsSpec : ChangeSpec := { name := "fnExactSemigroupSwaps", fn := fun _ => fun
  | [d] => { results := [.lit (.bool true)], args := [d] }
  | _ => none }
def fnExactSemigroupSwapsRow : OpenClaim := { program := "ythffjcgkmbelgaadoor", sum := "d610232c4e87cf1fb229931a146f4ddd7c60380038735eb42ab39144eba26620", func := "loop.example/partialcharts/laws.FnExactSemigroupSwaps", spec := "fnExactSemigroupSwaps", inPlace := ["internal/reflectlite.ValueOf", "(internal/reflectlite.Value).Type", "(internal/reflectlite.Value).IsNil", "internal/reflectlite.TypeOf", "(internal/reflectlite.Value).Elem", "(internal/reflectlite.Value).Set"], unfollowed := true, recurses := true, named := ["errors.errorType"], plainKeys := false, apart := false, laid := [("errors.errorType", laid_errors_errorType)] }
def FnExactSemigroupSwapsSaid : Prop := fnExactSemigroupSwapsRow.holds Tryd.pinned (OpenSpec.ofChange fnExactSemigroupSwapsSpec)

/-- ITS FALSE NEIGHBOUR: 'it returns false'. Refute it at one input. -/
def fnExactSemigroupSwapsWrong : ChangeSpec := { name := "fnExactSemigroupSwaps", fn := fun _ => fun
  | [d] => { results := [.lit (.bool false)], args := [d] }
  | _ => none }
def FnExactSemigroupSwapsWrongFalsely : Prop := fnExactSemigroupSwapsRow.holds Tryd.pinned (OpenSpec.ofChange fnExactSemigroupSwapsWrong)

/-- 'laws.FnExactSemigroupClasses': WHATEVER THE INPUT: true; the input reads as it did. -/
def fnExactSemigroupClassesSpec : ChangeSpec := { name := "fnExactSemigroupClasses", fn := fun _ => fun
  | [d] => { results := [.lit (.bool true)], args := [d] }
  | _ => none }
def fnExactSemigroupClassesRow : OpenClaim := { program := "ythffjcgkmbelgaadoor", sum := "d610232c4e87cf1fb229931a146f4ddd7c60380038735eb42ab39144eba26620", func := "loop.example/partialcharts/laws.FnExactSemigroupClasses", spec := "fnExactSemigroupClasses", inPlace := ["internal/reflectlite.ValueOf", "(internal/reflectlite.Value).Type", "(internal/reflectlite.Value).IsNil", "internal/reflectlite.TypeOf", "(internal/reflectlite.Value).Elem", "(internal/reflectlite.Value).Set"], unfollowed := true, recurses := true, named := ["errors.errorType"], plainKeys := false, apart := false, laid := [("errors.errorType", laid_errors_errorType)] }
def FnExactSemigroupClassesSaid : Prop := fnExactSemigroupClassesRow.holds Tryd.pinned (OpenSpec.ofChange fnExactSemigroupClassesSpec)

/-- ITS FALSE NEIGHBOUR: 'it returns false'. Refute it at one input. -/
def fnExactSemigroupClassesWrong : ChangeSpec := { name := "fnExactSemigroupClasses", fn := fun _ => fun
  | [d] => { results := [.lit (.bool false)], args := [d] }
  | _ => none }
def FnExactSemigroupClassesWrongFalsely : Prop := fnExactSemigroupClassesRow.holds Tryd.pinned (OpenSpec.ofChange fnExactSemigroupClassesWrong)

/-- 'laws.FnExactSemigroupIdeal': WHATEVER THE INPUT: true; the input reads as it did. -/
def fnExactSemigroupIdealSpec : ChangeSpec := { name := "fnExactSemigroupIdeal", fn := fun _ => fun
  | [d1, d2] => { results := [.lit (.bool true)], args := [d1, d2] }
  | _ => none }
def fnExactSemigroupIdealRow : OpenClaim := { program := "ythffjcgkmbelgaadoor", sum := "d610232c4e87cf1fb229931a146f4ddd7c60380038735eb42ab39144eba26620", func := "loop.example/partialcharts/laws.FnExactSemigroupIdeal", spec := "fnExactSemigroupIdeal", inPlace := ["internal/reflectlite.ValueOf", "(internal/reflectlite.Value).Type", "(internal/reflectlite.Value).IsNil", "internal/reflectlite.TypeOf", "(internal/reflectlite.Value).Elem", "(internal/reflectlite.Value).Set"], unfollowed := true, recurses := true, named := ["errors.errorType"], plainKeys := false, apart := false, laid := [("errors.errorType", laid_errors_errorType)] }
def FnExactSemigroupIdealSaid : Prop := fnExactSemigroupIdealRow.holds Tryd.pinned (OpenSpec.ofChange fnExactSemigroupIdealSpec)

/-- ITS FALSE NEIGHBOUR: 'it returns false'. Refute it at one input. -/
def fnExactSemigroupIdealWrong : ChangeSpec := { name := "fnExactSemigroupIdeal", fn := fun _ => fun
  | [d1, d2] => { results := [.lit (.bool false)], args := [d1, d2] }
  | _ => none }
def FnExactSemigroupIdealWrongFalsely : Prop := fnExactSemigroupIdealRow.holds Tryd.pinned (OpenSpec.ofChange fnExactSemigroupIdealWrong)

/-- 'laws.FnExactSemigroupOf': WHATEVER THE INPUT: true; the input reads as it did. -/
def fnExactSemigroupOfSpec : ChangeSpec := { name := "fnExactSemigroupOf", fn := fun _ => fun
  | [d] => { results := [.lit (.bool true)], args := [d] }
  | _ => none }
def fnExactSemigroupOfRow : OpenClaim := { program := "ythffjcgkmbelgaadoor", sum := "d610232c4e87cf1fb229931a146f4ddd7c60380038735eb42ab39144eba26620", func := "loop.example/partialcharts/laws.FnExactSemigroupOf", spec := "fnExactSemigroupOf", inPlace := ["internal/reflectlite.ValueOf", "(internal/reflectlite.Value).Type", "(internal/reflectlite.Value).IsNil", "internal/reflectlite.TypeOf", "(internal/reflectlite.Value).Elem", "(internal/reflectlite.Value).Set"], unfollowed := true, recurses := true, named := ["errors.errorType"], plainKeys := false, apart := false, laid := [("errors.errorType", laid_errors_errorType)] }
def FnExactSemigroupOfSaid : Prop := fnExactSemigroupOfRow.holds Tryd.pinned (OpenSpec.ofChange fnExactSemigroupOfSpec)

/-- ITS FALSE NEIGHBOUR: 'it returns false'. Refute it at one input. -/
def fnExactSemigroupOfWrong : ChangeSpec := { name := "fnExactSemigroupOf", fn := fun _ => fun
  | [d] => { results := [.lit (.bool false)], args := [d] }
  | _ => none }
def FnExactSemigroupOfWrongFalsely : Prop := fnExactSemigroupOfRow.holds Tryd.pinned (OpenSpec.ofChange fnExactSemigroupOfWrong)

/- THE SECOND FORM. 'bulk': how many values and letters a reading holds, each counted each time it is reached (what is shared counts as often as it is met; a slice's spare places count too). A statement '..UptoSaid' is the law's where the arguments, and the package variables that the reading takes, are together of bulk at most 1048576: NARROWER than '..Said'. Prove '..Said' where nothing that the law and all that it calls make is longer than what came in: it says more and counts as full. Else prove '..UptoSaid'. A law counts once. -/
mutual
def uptoBulk {H : Type} : DataW H → Nat
  | .lit (.string bytes) => bytes.length + 1
  | .lit _ => 1
  | .nil => 1
  | .ptr d => uptoBulk d + 1
  | .slice elems spare => uptoBulkAll elems + uptoBulkAll spare + 1
  | .agg parts => uptoBulkAll parts + 1
  | .iface _ d => uptoBulk d + 1
  | .map entries => uptoBulkEntries entries + 1
  | .held _ => 1
def uptoBulkAll {H : Type} : List (DataW H) → Nat
  | [] => 0
  | d :: r => uptoBulk d + uptoBulkAll r
def uptoBulkEntries {H : Type} : List (Lit × DataW H) → Nat
  | [] => 0
  | x :: r => uptoBulkEntry x + uptoBulkEntries r
def uptoBulkEntry {H : Type} : Lit × DataW H → Nat
  | (.string bytes, d) => bytes.length + uptoBulk d + 1
  | (_, d) => uptoBulk d + 1
 end
def uptoSmall : (H : Type) → List (DataW H) → Bool := fun _ ds => decide (uptoBulkAll ds ≤ 1048576)
def OpenSpec.upto (s : _root_.Go.ChangeSpec) : _root_.Go.OpenSpec := { _root_.Go.OpenSpec.ofChange s with cond := some uptoSmall }

/-- 'laws.FnExactSemigroupIdems', WHERE WHAT IT READS IS OF BULK AT MOST 1048576: true; the input reads as it did. -/
def fnExactSemigroupIdemsUptoRow : OpenClaim := { program := "ythffjcgkmbelgaadoor", sum := "d610232c4e87cf1fb229931a146f4ddd7c60380038735eb42ab39144eba26620", func := "loop.example/partialcharts/laws.FnExactSemigroupIdems", spec := "fnExactSemigroupIdems", inPlace := ["internal/reflectlite.ValueOf", "(internal/reflectlite.Value).Type", "(internal/reflectlite.Value).IsNil", "internal/reflectlite.TypeOf", "(internal/reflectlite.Value).Elem", "(internal/reflectlite.Value).Set"], unfollowed := true, recurses := true, named := ["errors.errorType"], plainKeys := false, apart := false, laid := [("errors.errorType", laid_errors_errorType)], narrowed := true }
def FnExactSemigroupIdemsUptoSaid : Prop := fnExactSemigroupIdemsUptoRow.holds Tryd.pinned (OpenSpec.upto fnExactSemigroupIdemsSpec)

/-- 'laws.FnExactSemigroupBottom', WHERE WHAT IT READS IS OF BULK AT MOST 1048576: true; the input reads as it did. -/
def fnExactSemigroupBottomUptoRow : OpenClaim := { program := "ythffjcgkmbelgaadoor", sum := "d610232c4e87cf1fb229931a146f4ddd7c60380038735eb42ab39144eba26620", func := "loop.example/partialcharts/laws.FnExactSemigroupBottom", spec := "fnExactSemigroupBottom", inPlace := ["internal/reflectlite.ValueOf", "(internal/reflectlite.Value).Type", "(internal/reflectlite.Value).IsNil", "internal/reflectlite.TypeOf", "(internal/reflectlite.Value).Elem", "(internal/reflectlite.Value).Set"], unfollowed := true, recurses := true, named := ["errors.errorType"], plainKeys := false, apart := false, laid := [("errors.errorType", laid_errors_errorType)], narrowed := true }
def FnExactSemigroupBottomUptoSaid : Prop := fnExactSemigroupBottomUptoRow.holds Tryd.pinned (OpenSpec.upto fnExactSemigroupBottomSpec)

/-- 'laws.FnExactSemigroupTops', WHERE WHAT IT READS IS OF BULK AT MOST 1048576: true; the input reads as it did. -/
def fnExactSemigroupTopsUptoRow : OpenClaim := { program := "ythffjcgkmbelgaadoor", sum := "d610232c4e87cf1fb229931a146f4ddd7c60380038735eb42ab39144eba26620", func := "loop.example/partialcharts/laws.FnExactSemigroupTops", spec := "fnExactSemigroupTops", inPlace := ["internal/reflectlite.ValueOf", "(internal/reflectlite.Value).Type", "(internal/reflectlite.Value).IsNil", "internal/reflectlite.TypeOf", "(internal/reflectlite.Value).Elem", "(internal/reflectlite.Value).Set"], unfollowed := true, recurses := true, named := ["errors.errorType"], plainKeys := false, apart := false, laid := [("errors.errorType", laid_errors_errorType)], narrowed := true }
def FnExactSemigroupTopsUptoSaid : Prop := fnExactSemigroupTopsUptoRow.holds Tryd.pinned (OpenSpec.upto fnExactSemigroupTopsSpec)

/-- 'laws.FnExactSemigroupAbove', WHERE WHAT IT READS IS OF BULK AT MOST 1048576: true; the input reads as it did. -/
def fnExactSemigroupAboveUptoRow : OpenClaim := { program := "ythffjcgkmbelgaadoor", sum := "d610232c4e87cf1fb229931a146f4ddd7c60380038735eb42ab39144eba26620", func := "loop.example/partialcharts/laws.FnExactSemigroupAbove", spec := "fnExactSemigroupAbove", inPlace := ["internal/reflectlite.ValueOf", "(internal/reflectlite.Value).Type", "(internal/reflectlite.Value).IsNil", "internal/reflectlite.TypeOf", "(internal/reflectlite.Value).Elem", "(internal/reflectlite.Value).Set"], unfollowed := true, recurses := true, named := ["errors.errorType"], plainKeys := false, apart := false, laid := [("errors.errorType", laid_errors_errorType)], narrowed := true }
def FnExactSemigroupAboveUptoSaid : Prop := fnExactSemigroupAboveUptoRow.holds Tryd.pinned (OpenSpec.upto fnExactSemigroupAboveSpec)

/-- 'laws.FnExactSemigroupSwaps', WHERE WHAT IT READS IS OF BULK AT MOST 1048576: true; the input reads as it did. -/
def fnExactSemigroupSwapsUptoRow : OpenClaim := { program := "ythffjcgkmbelgaadoor", sum := "d610232c4e87cf1fb229931a146f4ddd7c60380038735eb42ab39144eba26620", func := "loop.example/partialcharts/laws.FnExactSemigroupSwaps", spec := "fnExactSemigroupSwaps", inPlace := ["internal/reflectlite.ValueOf", "(internal/reflectlite.Value).Type", "(internal/reflectlite.Value).IsNil", "internal/reflectlite.TypeOf", "(internal/reflectlite.Value).Elem", "(internal/reflectlite.Value).Set"], unfollowed := true, recurses := true, named := ["errors.errorType"], plainKeys := false, apart := false, laid := [("errors.errorType", laid_errors_errorType)], narrowed := true }
def FnExactSemigroupSwapsUptoSaid : Prop := fnExactSemigroupSwapsUptoRow.holds Tryd.pinned (OpenSpec.upto fnExactSemigroupSwapsSpec)

/-- 'laws.FnExactSemigroupClasses', WHERE WHAT IT READS IS OF BULK AT MOST 1048576: true; the input reads as it did. -/
def fnExactSemigroupClassesUptoRow : OpenClaim := { program := "ythffjcgkmbelgaadoor", sum := "d610232c4e87cf1fb229931a146f4ddd7c60380038735eb42ab39144eba26620", func := "loop.example/partialcharts/laws.FnExactSemigroupClasses", spec := "fnExactSemigroupClasses", inPlace := ["internal/reflectlite.ValueOf", "(internal/reflectlite.Value).Type", "(internal/reflectlite.Value).IsNil", "internal/reflectlite.TypeOf", "(internal/reflectlite.Value).Elem", "(internal/reflectlite.Value).Set"], unfollowed := true, recurses := true, named := ["errors.errorType"], plainKeys := false, apart := false, laid := [("errors.errorType", laid_errors_errorType)], narrowed := true }
def FnExactSemigroupClassesUptoSaid : Prop := fnExactSemigroupClassesUptoRow.holds Tryd.pinned (OpenSpec.upto fnExactSemigroupClassesSpec)

/-- 'laws.FnExactSemigroupIdeal', WHERE WHAT IT READS IS OF BULK AT MOST 1048576: true; the input reads as it did. -/
def fnExactSemigroupIdealUptoRow : OpenClaim := { program := "ythffjcgkmbelgaadoor", sum := "d610232c4e87cf1fb229931a146f4ddd7c60380038735eb42ab39144eba26620", func := "loop.example/partialcharts/laws.FnExactSemigroupIdeal", spec := "fnExactSemigroupIdeal", inPlace := ["internal/reflectlite.ValueOf", "(internal/reflectlite.Value).Type", "(internal/reflectlite.Value).IsNil", "internal/reflectlite.TypeOf", "(internal/reflectlite.Value).Elem", "(internal/reflectlite.Value).Set"], unfollowed := true, recurses := true, named := ["errors.errorType"], plainKeys := false, apart := false, laid := [("errors.errorType", laid_errors_errorType)], narrowed := true }
def FnExactSemigroupIdealUptoSaid : Prop := fnExactSemigroupIdealUptoRow.holds Tryd.pinned (OpenSpec.upto fnExactSemigroupIdealSpec)

/-- 'laws.FnExactSemigroupOf', WHERE WHAT IT READS IS OF BULK AT MOST 1048576: true; the input reads as it did. -/
def fnExactSemigroupOfUptoRow : OpenClaim := { program := "ythffjcgkmbelgaadoor", sum := "d610232c4e87cf1fb229931a146f4ddd7c60380038735eb42ab39144eba26620", func := "loop.example/partialcharts/laws.FnExactSemigroupOf", spec := "fnExactSemigroupOf", inPlace := ["internal/reflectlite.ValueOf", "(internal/reflectlite.Value).Type", "(internal/reflectlite.Value).IsNil", "internal/reflectlite.TypeOf", "(internal/reflectlite.Value).Elem", "(internal/reflectlite.Value).Set"], unfollowed := true, recurses := true, named := ["errors.errorType"], plainKeys := false, apart := false, laid := [("errors.errorType", laid_errors_errorType)], narrowed := true }
def FnExactSemigroupOfUptoSaid : Prop := fnExactSemigroupOfUptoRow.holds Tryd.pinned (OpenSpec.upto fnExactSemigroupOfSpec)

end Rows
end Go.Proofs.YthffjcgkmbelgaaDoor
