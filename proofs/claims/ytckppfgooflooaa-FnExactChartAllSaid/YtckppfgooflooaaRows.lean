/-
  No cell of these rows narrows 'for every input' (looked for: loops, veiled, ifaces, maps, wideKeys, modest, calm, conditions, laid).
  DERIVED. THE GIVEN ROWS OF THIS SEAT. 12 by the template 'for every input the law returns true; each argument reads behind the call as it read before'; 0 by the template 'total and deterministic' (their statements: YtckppfgooflooaaTotals.lean).
  GIVEN WITH THE SEED: the statements are not yours to turn. If you find one false, say at which input.
  Laid BY PROGRAM, IN A SANDBOX (cutbox-rows.mjs): the forced cells as the released guide's own fill.sh prints them over the translation a6213dcc2c2f6bd7… (all of the seat's roots in one cut). By AI agents, Wed Nov 11 2026. No macro, syntax, notation, axiom, sorry.
-/
import Derived.Test.YtckppfgooflooaaChecked
import GoSem.Claim
import GoSem.ClaimJoined
import GoSem.ClaimMapViews
import Derived.JoinedTies
import Derived.KernelRfl
namespace Go.Proofs.Ytckppfgooflooaa
/- THE CELL 'sum', in the pinned program and in every row, IS THE sha256 OF THE DUMP (.gsa) THAT YtckppfgooflooaaProg.lean LOADS. Nothing in Lean hashes anything: it is a label: what it is worth is what the hold of that sum in a sandbox is worth. -/
noncomputable def Try.pinned : Pinned := { name := "ytckppfgooflooaa", sum := "a6213dcc2c2f6bd73a66a0bb0ad37094fa7389daec6b56bf73c5f102c547721c", checked := Try.checked }
namespace Rows
def none {H : Type} : Left H := { results := [], args := [] }

/-- 'laws.FnNumber': WHATEVER THE INPUT: true; the input reads as it did. -/
def fnNumberSpec : ChangeSpec := { name := "fnNumber", fn := fun _ => fun
  | [d] => { results := [.lit (.bool true)], args := [d] }
  | _ => none }
def fnNumberRow : OpenClaim := { program := "ytckppfgooflooaa", sum := "a6213dcc2c2f6bd73a66a0bb0ad37094fa7389daec6b56bf73c5f102c547721c", func := "loop.example/partialcharts/laws.FnNumber", spec := "fnNumber", apart := false }
def FnNumberSaid : Prop := fnNumberRow.holds Try.pinned (OpenSpec.ofChange fnNumberSpec)

/-- ITS FALSE NEIGHBOUR: 'it returns false'. Refute it at one input. -/
def fnNumberWrong : ChangeSpec := { name := "fnNumber", fn := fun _ => fun
  | [d] => { results := [.lit (.bool false)], args := [d] }
  | _ => none }
def FnNumberWrongFalsely : Prop := fnNumberRow.holds Try.pinned (OpenSpec.ofChange fnNumberWrong)

/-- 'laws.FnExactWaysOf': WHATEVER THE INPUT: true; the input reads as it did. -/
def fnExactWaysOfSpec : ChangeSpec := { name := "fnExactWaysOf", fn := fun _ => fun
  | [d] => { results := [.lit (.bool true)], args := [d] }
  | _ => none }
def fnExactWaysOfRow : OpenClaim := { program := "ytckppfgooflooaa", sum := "a6213dcc2c2f6bd73a66a0bb0ad37094fa7389daec6b56bf73c5f102c547721c", func := "loop.example/partialcharts/laws.FnExactWaysOf", spec := "fnExactWaysOf", unfollowed := true, recurses := true, apart := false }
def FnExactWaysOfSaid : Prop := fnExactWaysOfRow.holds Try.pinned (OpenSpec.ofChange fnExactWaysOfSpec)

/-- ITS FALSE NEIGHBOUR: 'it returns false'. Refute it at one input. -/
def fnExactWaysOfWrong : ChangeSpec := { name := "fnExactWaysOf", fn := fun _ => fun
  | [d] => { results := [.lit (.bool false)], args := [d] }
  | _ => none }
def FnExactWaysOfWrongFalsely : Prop := fnExactWaysOfRow.holds Try.pinned (OpenSpec.ofChange fnExactWaysOfWrong)

/-- 'laws.FnExactWaysChart': WHATEVER THE INPUT: true; the input reads as it did. -/
def fnExactWaysChartSpec : ChangeSpec := { name := "fnExactWaysChart", fn := fun _ => fun
  | [d1, d2, d3] => { results := [.lit (.bool true)], args := [d1, d2, d3] }
  | _ => none }
def fnExactWaysChartRow : OpenClaim := { program := "ytckppfgooflooaa", sum := "a6213dcc2c2f6bd73a66a0bb0ad37094fa7389daec6b56bf73c5f102c547721c", func := "loop.example/partialcharts/laws.FnExactWaysChart", spec := "fnExactWaysChart", unfollowed := true, recurses := true, apart := false }
def FnExactWaysChartSaid : Prop := fnExactWaysChartRow.holds Try.pinned (OpenSpec.ofChange fnExactWaysChartSpec)

/-- ITS FALSE NEIGHBOUR: 'it returns false'. Refute it at one input. -/
def fnExactWaysChartWrong : ChangeSpec := { name := "fnExactWaysChart", fn := fun _ => fun
  | [d1, d2, d3] => { results := [.lit (.bool false)], args := [d1, d2, d3] }
  | _ => none }
def FnExactWaysChartWrongFalsely : Prop := fnExactWaysChartRow.holds Try.pinned (OpenSpec.ofChange fnExactWaysChartWrong)

/-- 'laws.FnExactWaysShape': WHATEVER THE INPUT: true; the input reads as it did. -/
def fnExactWaysShapeSpec : ChangeSpec := { name := "fnExactWaysShape", fn := fun _ => fun
  | [d] => { results := [.lit (.bool true)], args := [d] }
  | _ => none }
def fnExactWaysShapeRow : OpenClaim := { program := "ytckppfgooflooaa", sum := "a6213dcc2c2f6bd73a66a0bb0ad37094fa7389daec6b56bf73c5f102c547721c", func := "loop.example/partialcharts/laws.FnExactWaysShape", spec := "fnExactWaysShape", unfollowed := true, recurses := true, apart := false }
def FnExactWaysShapeSaid : Prop := fnExactWaysShapeRow.holds Try.pinned (OpenSpec.ofChange fnExactWaysShapeSpec)

/-- ITS FALSE NEIGHBOUR: 'it returns false'. Refute it at one input. -/
def fnExactWaysShapeWrong : ChangeSpec := { name := "fnExactWaysShape", fn := fun _ => fun
  | [d] => { results := [.lit (.bool false)], args := [d] }
  | _ => none }
def FnExactWaysShapeWrongFalsely : Prop := fnExactWaysShapeRow.holds Try.pinned (OpenSpec.ofChange fnExactWaysShapeWrong)

/-- 'laws.FnExactWaysAlike': WHATEVER THE INPUT: true; the input reads as it did. -/
def fnExactWaysAlikeSpec : ChangeSpec := { name := "fnExactWaysAlike", fn := fun _ => fun
  | [d1, d2] => { results := [.lit (.bool true)], args := [d1, d2] }
  | _ => none }
def fnExactWaysAlikeRow : OpenClaim := { program := "ytckppfgooflooaa", sum := "a6213dcc2c2f6bd73a66a0bb0ad37094fa7389daec6b56bf73c5f102c547721c", func := "loop.example/partialcharts/laws.FnExactWaysAlike", spec := "fnExactWaysAlike", unfollowed := true, recurses := true, apart := false }
def FnExactWaysAlikeSaid : Prop := fnExactWaysAlikeRow.holds Try.pinned (OpenSpec.ofChange fnExactWaysAlikeSpec)

/-- ITS FALSE NEIGHBOUR: 'it returns false'. Refute it at one input. -/
def fnExactWaysAlikeWrong : ChangeSpec := { name := "fnExactWaysAlike", fn := fun _ => fun
  | [d1, d2] => { results := [.lit (.bool false)], args := [d1, d2] }
  | _ => none }
def FnExactWaysAlikeWrongFalsely : Prop := fnExactWaysAlikeRow.holds Try.pinned (OpenSpec.ofChange fnExactWaysAlikeWrong)

/-- 'laws.FnExactWaysIndex': WHATEVER THE INPUT: true; the input reads as it did. -/
def fnExactWaysIndexSpec : ChangeSpec := { name := "fnExactWaysIndex", fn := fun _ => fun
  | [d] => { results := [.lit (.bool true)], args := [d] }
  | _ => none }
def fnExactWaysIndexRow : OpenClaim := { program := "ytckppfgooflooaa", sum := "a6213dcc2c2f6bd73a66a0bb0ad37094fa7389daec6b56bf73c5f102c547721c", func := "loop.example/partialcharts/laws.FnExactWaysIndex", spec := "fnExactWaysIndex", unfollowed := true, recurses := true, apart := false }
def FnExactWaysIndexSaid : Prop := fnExactWaysIndexRow.holds Try.pinned (OpenSpec.ofChange fnExactWaysIndexSpec)

/-- ITS FALSE NEIGHBOUR: 'it returns false'. Refute it at one input. -/
def fnExactWaysIndexWrong : ChangeSpec := { name := "fnExactWaysIndex", fn := fun _ => fun
  | [d] => { results := [.lit (.bool false)], args := [d] }
  | _ => none }
def FnExactWaysIndexWrongFalsely : Prop := fnExactWaysIndexRow.holds Try.pinned (OpenSpec.ofChange fnExactWaysIndexWrong)

/-- 'laws.FnExactWaysPeriod': WHATEVER THE INPUT: true; the input reads as it did. -/
def fnExactWaysPeriodSpec : ChangeSpec := { name := "fnExactWaysPeriod", fn := fun _ => fun
  | [d] => { results := [.lit (.bool true)], args := [d] }
  | _ => none }
def fnExactWaysPeriodRow : OpenClaim := { program := "ytckppfgooflooaa", sum := "a6213dcc2c2f6bd73a66a0bb0ad37094fa7389daec6b56bf73c5f102c547721c", func := "loop.example/partialcharts/laws.FnExactWaysPeriod", spec := "fnExactWaysPeriod", unfollowed := true, recurses := true, apart := false }
def FnExactWaysPeriodSaid : Prop := fnExactWaysPeriodRow.holds Try.pinned (OpenSpec.ofChange fnExactWaysPeriodSpec)

/-- ITS FALSE NEIGHBOUR: 'it returns false'. Refute it at one input. -/
def fnExactWaysPeriodWrong : ChangeSpec := { name := "fnExactWaysPeriod", fn := fun _ => fun
  | [d] => { results := [.lit (.bool false)], args := [d] }
  | _ => none }
def FnExactWaysPeriodWrongFalsely : Prop := fnExactWaysPeriodRow.holds Try.pinned (OpenSpec.ofChange fnExactWaysPeriodWrong)

/-- 'laws.FnExactWaysPower': WHATEVER THE INPUT: true; the input reads as it did. -/
def fnExactWaysPowerSpec : ChangeSpec := { name := "fnExactWaysPower", fn := fun _ => fun
  | [d1, d2] => { results := [.lit (.bool true)], args := [d1, d2] }
  | _ => none }
def fnExactWaysPowerRow : OpenClaim := { program := "ytckppfgooflooaa", sum := "a6213dcc2c2f6bd73a66a0bb0ad37094fa7389daec6b56bf73c5f102c547721c", func := "loop.example/partialcharts/laws.FnExactWaysPower", spec := "fnExactWaysPower", unfollowed := true, recurses := true, apart := false }
def FnExactWaysPowerSaid : Prop := fnExactWaysPowerRow.holds Try.pinned (OpenSpec.ofChange fnExactWaysPowerSpec)

/-- ITS FALSE NEIGHBOUR: 'it returns false'. Refute it at one input. -/
def fnExactWaysPowerWrong : ChangeSpec := { name := "fnExactWaysPower", fn := fun _ => fun
  | [d1, d2] => { results := [.lit (.bool false)], args := [d1, d2] }
  | _ => none }
def FnExactWaysPowerWrongFalsely : Prop := fnExactWaysPowerRow.holds Try.pinned (OpenSpec.ofChange fnExactWaysPowerWrong)

/-- 'laws.FnExactGreenHolds': WHATEVER THE INPUT: true; the input reads as it did. -/
def fnExactGreenHoldsSpec : ChangeSpec := { name := "fnExactGreenHolds", fn := fun _ => fun
  | [d1, d2, d3] => { results := [.lit (.bool true)], args := [d1, d2, d3] }
  | _ => none }
def fnExactGreenHoldsRow : OpenClaim := { program := "ytckppfgooflooaa", sum := "a6213dcc2c2f6bd73a66a0bb0ad37094fa7389daec6b56bf73c5f102c547721c", func := "loop.example/partialcharts/laws.FnExactGreenHolds", spec := "fnExactGreenHolds", unfollowed := true, recurses := true, apart := false }
def FnExactGreenHoldsSaid : Prop := fnExactGreenHoldsRow.holds Try.pinned (OpenSpec.ofChange fnExactGreenHoldsSpec)

/-- ITS FALSE NEIGHBOUR: 'it returns false'. Refute it at one input. -/
def fnExactGreenHoldsWrong : ChangeSpec := { name := "fnExactGreenHolds", fn := fun _ => fun
  | [d1, d2, d3] => { results := [.lit (.bool false)], args := [d1, d2, d3] }
  | _ => none }
def FnExactGreenHoldsWrongFalsely : Prop := fnExactGreenHoldsRow.holds Try.pinned (OpenSpec.ofChange fnExactGreenHoldsWrong)

/-- 'laws.FnExactChartNumber': WHATEVER THE INPUT: true; the input reads as it did. -/
def fnExactChartNumberSpec : ChangeSpec := { name := "fnExactChartNumber", fn := fun _ => fun
  | [d] => { results := [.lit (.bool true)], args := [d] }
  | _ => none }
def fnExactChartNumberRow : OpenClaim := { program := "ytckppfgooflooaa", sum := "a6213dcc2c2f6bd73a66a0bb0ad37094fa7389daec6b56bf73c5f102c547721c", func := "loop.example/partialcharts/laws.FnExactChartNumber", spec := "fnExactChartNumber", apart := false }
def FnExactChartNumberSaid : Prop := fnExactChartNumberRow.holds Try.pinned (OpenSpec.ofChange fnExactChartNumberSpec)

/-- ITS FALSE NEIGHBOUR: 'it returns false'. Refute it at one input. -/
def fnExactChartNumberWrong : ChangeSpec := { name := "fnExactChartNumber", fn := fun _ => fun
  | [d] => { results := [.lit (.bool false)], args := [d] }
  | _ => none }
def FnExactChartNumberWrongFalsely : Prop := fnExactChartNumberRow.holds Try.pinned (OpenSpec.ofChange fnExactChartNumberWrong)

/-- 'laws.FnExactChartAll': WHATEVER THE INPUT: true; the input reads as it did. -/
def fnExactChartAllSpec : ChangeSpec := { name := "fnExactChartAll", fn := fun _ => fun
  | [d] => { results := [.lit (.bool true)], args := [d] }
  | _ => none }
def fnExactChartAllRow : OpenClaim := { program := "ytckppfgooflooaa", sum := "a6213dcc2c2f6bd73a66a0bb0ad37094fa7389daec6b56bf73c5f102c547721c", func := "loop.example/partialcharts/laws.FnExactChartAll", spec := "fnExactChartAll", unfollowed := true, recurses := true, apart := false }
def FnExactChartAllSaid : Prop := fnExactChartAllRow.holds Try.pinned (OpenSpec.ofChange fnExactChartAllSpec)

/-- ITS FALSE NEIGHBOUR: 'it returns false'. Refute it at one input. -/
def fnExactChartAllWrong : ChangeSpec := { name := "fnExactChartAll", fn := fun _ => fun
  | [d] => { results := [.lit (.bool false)], args := [d] }
  | _ => none }
def FnExactChartAllWrongFalsely : Prop := fnExactChartAllRow.holds Try.pinned (OpenSpec.ofChange fnExactChartAllWrong)

/-- 'laws.FnGreen': WHATEVER THE INPUT: true; the input reads as it did. -/
def fnGreenSpec : ChangeSpec := { name := "fnGreen", fn := fun _ => fun
  | [d] => { results := [.lit (.bool true)], args := [d] }
  | _ => none }
def fnGreenRow : OpenClaim := { program := "ytckppfgooflooaa", sum := "a6213dcc2c2f6bd73a66a0bb0ad37094fa7389daec6b56bf73c5f102c547721c", func := "loop.example/partialcharts/laws.FnGreen", spec := "fnGreen", unfollowed := true, recurses := true, apart := false }
def FnGreenSaid : Prop := fnGreenRow.holds Try.pinned (OpenSpec.ofChange fnGreenSpec)

/-- ITS FALSE NEIGHBOUR: 'it returns false'. Refute it at one input. -/
def fnGreenWrong : ChangeSpec := { name := "fnGreen", fn := fun _ => fun
  | [d] => { results := [.lit (.bool false)], args := [d] }
  | _ => none }
def FnGreenWrongFalsely : Prop := fnGreenRow.holds Try.pinned (OpenSpec.ofChange fnGreenWrong)

/- THE SECOND FORM. 'bulk': how many values and letters a reading holds, each counted each time it is reached (what is shared counts as often as it is met; a slice's spare places count too). A statement '..UptoSaid' is the law's where the arguments, and the package variables that the reading takes, are together of bulk at most 1048576: NARROWER than '..Said'. Prove '..Said' where nothing that the law and all that it calls make is longer than what came in: it says more and counts as full. Else prove '..UptoSaid'. A law counts once. -/
mutual
def uptoBulk {H : Type} : DataW H → Nat
  | .lit (.string bytes) => bytes.length + 1
  | .lit _ => 1
  | .nil => 1
  | .ptr d => uptoBulk d + 1
  | .slice elems spare => uptoBulkAll elems + uptoBulkAll spare + 1
  | .agg parts => uptoBulkAll parts + 1
  | .iface _ d => uptoBulk d + 1
  | .map entries => uptoBulkEntries entries + 1
  | .held _ => 1
def uptoBulkAll {H : Type} : List (DataW H) → Nat
  | [] => 0
  | d :: r => uptoBulk d + uptoBulkAll r
def uptoBulkEntries {H : Type} : List (Lit × DataW H) → Nat
  | [] => 0
  | x :: r => uptoBulkEntry x + uptoBulkEntries r
def uptoBulkEntry {H : Type} : Lit × DataW H → Nat
  | (.string bytes, d) => bytes.length + uptoBulk d + 1
  | (_, d) => uptoBulk d + 1
 end
def uptoSmall : (H : Type) → List (DataW H) → Bool := fun _ ds => decide (uptoBulkAll ds ≤ 1048576)
def OpenSpec.upto (s : _root_.Go.ChangeSpec) : _root_.Go.OpenSpec := { _root_.Go.OpenSpec.ofChange s with cond := some uptoSmall }

/-- 'laws.FnNumber', WHERE WHAT IT READS IS OF BULK AT MOST 1048576: true; the input reads as it did. -/
def fnNumberUptoRow : OpenClaim := { program := "ytckppfgooflooaa", sum := "a6213dcc2c2f6bd73a66a0bb0ad37094fa7389daec6b56bf73c5f102c547721c", func := "loop.example/partialcharts/laws.FnNumber", spec := "fnNumber", apart := false, narrowed := true }
def FnNumberUptoSaid : Prop := fnNumberUptoRow.holds Try.pinned (OpenSpec.upto fnNumberSpec)

/-- 'laws.FnExactWaysOf', WHERE WHAT IT READS IS OF BULK AT MOST 1048576: true; the input reads as it did. -/
def fnExactWaysOfUptoRow : OpenClaim := { program := "ytckppfgooflooaa", sum := "a6213dcc2c2f6bd73a66a0bb0ad37094fa7389daec6b56bf73c5f102c547721c", func := "loop.example/partialcharts/laws.FnExactWaysOf", spec := "fnExactWaysOf", unfollowed := true, recurses := true, apart := false, narrowed := true }
def FnExactWaysOfUptoSaid : Prop := fnExactWaysOfUptoRow.holds Try.pinned (OpenSpec.upto fnExactWaysOfSpec)

/-- 'laws.FnExactWaysChart', WHERE WHAT IT READS IS OF BULK AT MOST 1048576: true; the input reads as it did. -/
def fnExactWaysChartUptoRow : OpenClaim := { program := "ytckppfgooflooaa", sum := "a6213dcc2c2f6bd73a66a0bb0ad37094fa7389daec6b56bf73c5f102c547721c", func := "loop.example/partialcharts/laws.FnExactWaysChart", spec := "fnExactWaysChart", unfollowed := true, recurses := true, apart := false, narrowed := true }
def FnExactWaysChartUptoSaid : Prop := fnExactWaysChartUptoRow.holds Try.pinned (OpenSpec.upto fnExactWaysChartSpec)

/-- 'laws.FnExactWaysShape', WHERE WHAT IT READS IS OF BULK AT MOST 1048576: true; the input reads as it did. -/
def fnExactWaysShapeUptoRow : OpenClaim := { program := "ytckppfgooflooaa", sum := "a6213dcc2c2f6bd73a66a0bb0ad37094fa7389daec6b56bf73c5f102c547721c", func := "loop.example/partialcharts/laws.FnExactWaysShape", spec := "fnExactWaysShape", unfollowed := true, recurses := true, apart := false, narrowed := true }
def FnExactWaysShapeUptoSaid : Prop := fnExactWaysShapeUptoRow.holds Try.pinned (OpenSpec.upto fnExactWaysShapeSpec)

/-- 'laws.FnExactWaysAlike', WHERE WHAT IT READS IS OF BULK AT MOST 1048576: true; the input reads as it did. -/
def fnExactWaysAlikeUptoRow : OpenClaim := { program := "ytckppfgooflooaa", sum := "a6213dcc2c2f6bd73a66a0bb0ad37094fa7389daec6b56bf73c5f102c547721c", func := "loop.example/partialcharts/laws.FnExactWaysAlike", spec := "fnExactWaysAlike", unfollowed := true, recurses := true, apart := false, narrowed := true }
def FnExactWaysAlikeUptoSaid : Prop := fnExactWaysAlikeUptoRow.holds Try.pinned (OpenSpec.upto fnExactWaysAlikeSpec)

/-- 'laws.FnExactWaysIndex', WHERE WHAT IT READS IS OF BULK AT MOST 1048576: true; the input reads as it did. -/
def fnExactWaysIndexUptoRow : OpenClaim := { program := "ytckppfgooflooaa", sum := "a6213dcc2c2f6bd73a66a0bb0ad37094fa7389daec6b56bf73c5f102c547721c", func := "loop.example/partialcharts/laws.FnExactWaysIndex", spec := "fnExactWaysIndex", unfollowed := true, recurses := true, apart := false, narrowed := true }
def FnExactWaysIndexUptoSaid : Prop := fnExactWaysIndexUptoRow.holds Try.pinned (OpenSpec.upto fnExactWaysIndexSpec)

/-- 'laws.FnExactWaysPeriod', WHERE WHAT IT READS IS OF BULK AT MOST 1048576: true; the input reads as it did. -/
def fnExactWaysPeriodUptoRow : OpenClaim := { program := "ytckppfgooflooaa", sum := "a6213dcc2c2f6bd73a66a0bb0ad37094fa7389daec6b56bf73c5f102c547721c", func := "loop.example/partialcharts/laws.FnExactWaysPeriod", spec := "fnExactWaysPeriod", unfollowed := true, recurses := true, apart := false, narrowed := true }
def FnExactWaysPeriodUptoSaid : Prop := fnExactWaysPeriodUptoRow.holds Try.pinned (OpenSpec.upto fnExactWaysPeriodSpec)

/-- 'laws.FnExactWaysPower', WHERE WHAT IT READS IS OF BULK AT MOST 1048576: true; the input reads as it did. -/
def fnExactWaysPowerUptoRow : OpenClaim := { program := "ytckppfgooflooaa", sum := "a6213dcc2c2f6bd73a66a0bb0ad37094fa7389daec6b56bf73c5f102c547721c", func := "loop.example/partialcharts/laws.FnExactWaysPower", spec := "fnExactWaysPower", unfollowed := true, recurses := true, apart := false, narrowed := true }
def FnExactWaysPowerUptoSaid : Prop := fnExactWaysPowerUptoRow.holds Try.pinned (OpenSpec.upto fnExactWaysPowerSpec)

/-- 'laws.FnExactGreenHolds', WHERE WHAT IT READS IS OF BULK AT MOST 1048576: true; the input reads as it did. -/
def fnExactGreenHoldsUptoRow : OpenClaim := { program := "ytckppfgooflooaa", sum := "a6213dcc2c2f6bd73a66a0bb0ad37094fa7389daec6b56bf73c5f102c547721c", func := "loop.example/partialcharts/laws.FnExactGreenHolds", spec := "fnExactGreenHolds", unfollowed := true, recurses := true, apart := false, narrowed := true }
def FnExactGreenHoldsUptoSaid : Prop := fnExactGreenHoldsUptoRow.holds Try.pinned (OpenSpec.upto fnExactGreenHoldsSpec)

/-- 'laws.FnExactChartNumber', WHERE WHAT IT READS IS OF BULK AT MOST 1048576: true; the input reads as it did. -/
def fnExactChartNumberUptoRow : OpenClaim := { program := "ytckppfgooflooaa", sum := "a6213dcc2c2f6bd73a66a0bb0ad37094fa7389daec6b56bf73c5f102c547721c", func := "loop.example/partialcharts/laws.FnExactChartNumber", spec := "fnExactChartNumber", apart := false, narrowed := true }
def FnExactChartNumberUptoSaid : Prop := fnExactChartNumberUptoRow.holds Try.pinned (OpenSpec.upto fnExactChartNumberSpec)

/-- 'laws.FnExactChartAll', WHERE WHAT IT READS IS OF BULK AT MOST 1048576: true; the input reads as it did. -/
def fnExactChartAllUptoRow : OpenClaim := { program := "ytckppfgooflooaa", sum := "a6213dcc2c2f6bd73a66a0bb0ad37094fa7389daec6b56bf73c5f102c547721c", func := "loop.example/partialcharts/laws.FnExactChartAll", spec := "fnExactChartAll", unfollowed := true, recurses := true, apart := false, narrowed := true }
def FnExactChartAllUptoSaid : Prop := fnExactChartAllUptoRow.holds Try.pinned (OpenSpec.upto fnExactChartAllSpec)

/-- 'laws.FnGreen', WHERE WHAT IT READS IS OF BULK AT MOST 1048576: true; the input reads as it did. -/
def fnGreenUptoRow : OpenClaim := { program := "ytckppfgooflooaa", sum := "a6213dcc2c2f6bd73a66a0bb0ad37094fa7389daec6b56bf73c5f102c547721c", func := "loop.example/partialcharts/laws.FnGreen", spec := "fnGreen", unfollowed := true, recurses := true, apart := false, narrowed := true }
def FnGreenUptoSaid : Prop := fnGreenUptoRow.holds Try.pinned (OpenSpec.upto fnGreenSpec)

end Rows
end Go.Proofs.Ytckppfgooflooaa
