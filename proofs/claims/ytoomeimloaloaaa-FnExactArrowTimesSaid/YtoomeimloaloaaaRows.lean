/-
  No cell of these rows narrows 'for every input' (looked for: loops, veiled, ifaces, maps, wideKeys, modest, calm, conditions, laid).
  DERIVED. THE GIVEN ROWS OF THIS SEAT. 4 by the template 'for every input the law returns true; each argument reads behind the call as it read before'; 0 by the template 'total and deterministic' (their statements: YtoomeimloaloaaaTotals.lean).
  GIVEN WITH THE SEED: the statements are not yours to turn. If you find one false, say at which input.
  Laid BY PROGRAM, IN A SANDBOX (cutbox-rows.mjs): the forced cells as the released guide's own fill.sh prints them over the translation af27fad0e2514b35… (all of the seat's roots in one cut). By AI agents, Wed Nov 11 2026. No macro, syntax, notation, axiom, sorry.
-/
import Derived.Test.YtoomeimloaloaaaChecked
import GoSem.Claim
import GoSem.ClaimJoined
import GoSem.ClaimMapViews
import Derived.JoinedTies
import Derived.KernelRfl
namespace Go.Proofs.Ytoomeimloaloaaa
/- THE CELL 'sum', in the pinned program and in every row, IS THE sha256 OF THE DUMP (.gsa) THAT YtoomeimloaloaaaProg.lean LOADS. Nothing in Lean hashes anything: it is a label: what it is worth is what the hold of that sum in a sandbox is worth. -/
noncomputable def Try.pinned : Pinned := { name := "ytoomeimloaloaaa", sum := "af27fad0e2514b35b07f07cf22ea2d09ac648db094e8f057b4a7bb4493b56794", checked := Try.checked }
namespace Rows
def none {H : Type} : Left H := { results := [], args := [] }

/-- 'laws.FnExactArrowJoins': WHATEVER THE INPUT: true; the input reads as it did. -/
def fnExactArrowJoinsSpec : ChangeSpec := { name := "fnExactArrowJoins", fn := fun _ => fun
  | [d1, d2] => { results := [.lit (.bool true)], args := [d1, d2] }
  | _ => none }
def fnExactArrowJoinsRow : OpenClaim := { program := "ytoomeimloaloaaa", sum := "af27fad0e2514b35b07f07cf22ea2d09ac648db094e8f057b4a7bb4493b56794", func := "loop.example/partialcharts/laws.FnExactArrowJoins", spec := "fnExactArrowJoins", unfollowed := true, recurses := true, apart := false }
def FnExactArrowJoinsSaid : Prop := fnExactArrowJoinsRow.holds Try.pinned (OpenSpec.ofChange fnExactArrowJoinsSpec)

/-- ITS FALSE NEIGHBOUR: 'it returns false'. Refute it at one input. -/
def fnExactArrowJoinsWrong : ChangeSpec := { name := "fnExactArrowJoins", fn := fun _ => fun
  | [d1, d2] => { results := [.lit (.bool false)], args := [d1, d2] }
  | _ => none }
def FnExactArrowJoinsWrongFalsely : Prop := fnExactArrowJoinsRow.holds Try.pinned (OpenSpec.ofChange fnExactArrowJoinsWrong)

/-- 'laws.FnExactArrowTimes': WHATEVER THE INPUT: true; the input reads as it did. -/
def fnExactArrowTimesSpec : ChangeSpec := { name := "fnExactArrowTimes", fn := fun _ => fun
  | [d1, d2] => { results := [.lit (.bool true)], args := [d1, d2] }
  | _ => none }
def fnExactArrowTimesRow : OpenClaim := { program := "ytoomeimloaloaaa", sum := "af27fad0e2514b35b07f07cf22ea2d09ac648db094e8f057b4a7bb4493b56794", func := "loop.example/partialcharts/laws.FnExactArrowTimes", spec := "fnExactArrowTimes", unfollowed := true, recurses := true, apart := false }
def FnExactArrowTimesSaid : Prop := fnExactArrowTimesRow.holds Try.pinned (OpenSpec.ofChange fnExactArrowTimesSpec)

/-- ITS FALSE NEIGHBOUR: 'it returns false'. Refute it at one input. -/
def fnExactArrowTimesWrong : ChangeSpec := { name := "fnExactArrowTimes", fn := fun _ => fun
  | [d1, d2] => { results := [.lit (.bool false)], args := [d1, d2] }
  | _ => none }
def FnExactArrowTimesWrongFalsely : Prop := fnExactArrowTimesRow.holds Try.pinned (OpenSpec.ofChange fnExactArrowTimesWrong)

/-- 'laws.FnJoins': WHATEVER THE INPUT: true; the input reads as it did. -/
def fnJoinsSpec : ChangeSpec := { name := "fnJoins", fn := fun _ => fun
  | [d] => { results := [.lit (.bool true)], args := [d] }
  | _ => none }
def fnJoinsRow : OpenClaim := { program := "ytoomeimloaloaaa", sum := "af27fad0e2514b35b07f07cf22ea2d09ac648db094e8f057b4a7bb4493b56794", func := "loop.example/partialcharts/laws.FnJoins", spec := "fnJoins", unfollowed := true, recurses := true, apart := false }
def FnJoinsSaid : Prop := fnJoinsRow.holds Try.pinned (OpenSpec.ofChange fnJoinsSpec)

/-- ITS FALSE NEIGHBOUR: 'it returns false'. Refute it at one input. -/
def fnJoinsWrong : ChangeSpec := { name := "fnJoins", fn := fun _ => fun
  | [d] => { results := [.lit (.bool false)], args := [d] }
  | _ => none }
def FnJoinsWrongFalsely : Prop := fnJoinsRow.holds Try.pinned (OpenSpec.ofChange fnJoinsWrong)

/-- 'laws.FnArrow': WHATEVER THE INPUT: true; the input reads as it did. -/
def fnArrowSpec : ChangeSpec := { name := "fnArrow", fn := fun _ => fun
  | [d] => { results := [.lit (.bool true)], args := [d] }
  | _ => none }
def fnArrowRow : OpenClaim := { program := "ytoomeimloaloaaa", sum := "af27fad0e2514b35b07f07cf22ea2d09ac648db094e8f057b4a7bb4493b56794", func := "loop.example/partialcharts/laws.FnArrow", spec := "fnArrow", unfollowed := true, recurses := true, apart := false }
def FnArrowSaid : Prop := fnArrowRow.holds Try.pinned (OpenSpec.ofChange fnArrowSpec)

/-- ITS FALSE NEIGHBOUR: 'it returns false'. Refute it at one input. -/
def fnArrowWrong : ChangeSpec := { name := "fnArrow", fn := fun _ => fun
  | [d] => { results := [.lit (.bool false)], args := [d] }
  | _ => none }
def FnArrowWrongFalsely : Prop := fnArrowRow.holds Try.pinned (OpenSpec.ofChange fnArrowWrong)

/- THE SECOND FORM. 'bulk': how many values and letters a reading holds, each counted each time it is reached (what is shared counts as often as it is met; a slice's spare places count too). A statement '..UptoSaid' is the law's where the arguments, and the package variables that the reading takes, are together of bulk at most 1048576: NARROWER than '..Said'. Prove '..Said' where nothing that the law and all that it calls make is longer than what came in: it says more and counts as full. Else prove '..UptoSaid'. A law counts once. -/
mutual
def uptoBulk {H : Type} : DataW H → Nat
  | .lit (.string bytes) => bytes.length + 1
  | .lit _ => 1
  | .nil => 1
  | .ptr d => uptoBulk d + 1
  | .slice elems spare => uptoBulkAll elems + uptoBulkAll spare + 1
  | .agg parts => uptoBulkAll parts + 1
  | .iface _ d => uptoBulk d + 1
  | .map entries => uptoBulkEntries entries + 1
  | .held _ => 1
def uptoBulkAll {H : Type} : List (DataW H) → Nat
  | [] => 0
  | d :: r => uptoBulk d + uptoBulkAll r
def uptoBulkEntries {H : Type} : List (Lit × DataW H) → Nat
  | [] => 0
  | x :: r => uptoBulkEntry x + uptoBulkEntries r
def uptoBulkEntry {H : Type} : Lit × DataW H → Nat
  | (.string bytes, d) => bytes.length + uptoBulk d + 1
  | (_, d) => uptoBulk d + 1
 end
def uptoSmall : (H : Type) → List (DataW H) → Bool := fun _ ds => decide (uptoBulkAll ds ≤ 1048576)
def OpenSpec.upto (s : _root_.Go.ChangeSpec) : _root_.Go.OpenSpec := { _root_.Go.OpenSpec.ofChange s with cond := some uptoSmall }

/-- 'laws.FnExactArrowJoins', WHERE WHAT IT READS IS OF BULK AT MOST 1048576: true; the input reads as it did. -/
def fnExactArrowJoinsUptoRow : OpenClaim := { program := "ytoomeimloaloaaa", sum := "af27fad0e2514b35b07f07cf22ea2d09ac648db094e8f057b4a7bb4493b56794", func := "loop.example/partialcharts/laws.FnExactArrowJoins", spec := "fnExactArrowJoins", unfollowed := true, recurses := true, apart := false, narrowed := true }
def FnExactArrowJoinsUptoSaid : Prop := fnExactArrowJoinsUptoRow.holds Try.pinned (OpenSpec.upto fnExactArrowJoinsSpec)

/-- 'laws.FnExactArrowTimes', WHERE WHAT IT READS IS OF BULK AT MOST 1048576: true; the input reads as it did. -/
def fnExactArrowTimesUptoRow : OpenClaim := { program := "ytoomeimloaloaaa", sum := "af27fad0e2514b35b07f07cf22ea2d09ac648db094e8f057b4a7bb4493b56794", func := "loop.example/partialcharts/laws.FnExactArrowTimes", spec := "fnExactArrowTimes", unfollowed := true, recurses := true, apart := false, narrowed := true }
def FnExactArrowTimesUptoSaid : Prop := fnExactArrowTimesUptoRow.holds Try.pinned (OpenSpec.upto fnExactArrowTimesSpec)

/-- 'laws.FnJoins', WHERE WHAT IT READS IS OF BULK AT MOST 1048576: true; the input reads as it did. -/
def fnJoinsUptoRow : OpenClaim := { program := "ytoomeimloaloaaa", sum := "af27fad0e2514b35b07f07cf22ea2d09ac648db094e8f057b4a7bb4493b56794", func := "loop.example/partialcharts/laws.FnJoins", spec := "fnJoins", unfollowed := true, recurses := true, apart := false, narrowed := true }
def FnJoinsUptoSaid : Prop := fnJoinsUptoRow.holds Try.pinned (OpenSpec.upto fnJoinsSpec)

/-- 'laws.FnArrow', WHERE WHAT IT READS IS OF BULK AT MOST 1048576: true; the input reads as it did. -/
def fnArrowUptoRow : OpenClaim := { program := "ytoomeimloaloaaa", sum := "af27fad0e2514b35b07f07cf22ea2d09ac648db094e8f057b4a7bb4493b56794", func := "loop.example/partialcharts/laws.FnArrow", spec := "fnArrow", unfollowed := true, recurses := true, apart := false, narrowed := true }
def FnArrowUptoSaid : Prop := fnArrowUptoRow.holds Try.pinned (OpenSpec.upto fnArrowSpec)

end Rows
end Go.Proofs.Ytoomeimloaloaaa
