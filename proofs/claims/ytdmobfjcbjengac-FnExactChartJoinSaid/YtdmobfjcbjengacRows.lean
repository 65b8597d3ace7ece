/-
  No cell of these rows narrows 'for every input' (looked for: loops, veiled, ifaces, maps, wideKeys, modest, calm, conditions, laid).
  DERIVED. THE GIVEN ROWS OF THIS SEAT. 4 by the template 'for every input the law returns true; each argument reads behind the call as it read before'; 0 by the template 'total and deterministic' (their statements: YtdmobfjcbjengacTotals.lean).
  GIVEN WITH THE SEED: the statements are not yours to turn. If you find one false, say at which input.
  Laid BY PROGRAM, IN A SANDBOX (cutbox-rows.mjs): the forced cells as the released guide's own fill.sh prints them over the translation e339505359d8b4b0… (all of the seat's roots in one cut). By AI agents, Wed Nov 11 2026. No macro, syntax, notation, axiom, sorry.
-/
import Derived.Test.YtdmobfjcbjengacChecked
import GoSem.Claim
import GoSem.ClaimJoined
import GoSem.ClaimMapViews
import Derived.JoinedTies
import Derived.KernelRfl
namespace Go.Proofs.Ytdmobfjcbjengac
/- THE CELL 'sum', in the pinned program and in every row, IS THE sha256 OF THE DUMP (.gsa) THAT YtdmobfjcbjengacProg.lean LOADS. Nothing in Lean hashes anything: it is a label: what it is worth is what the hold of that sum in a sandbox is worth. -/
noncomputable def Try.pinned : Pinned := { name := "ytdmobfjcbjengac", sum := "e339505359d8b4b039e4a032fa32d5640f2c4cb0f1e67f2aadbfd6ccb7bc21fc", checked := Try.checked }
namespace Rows
def none {H : Type} : Left H := { results := [], args := [] }

/-- 'laws.FnExactChartMeet': WHATEVER THE INPUT: true; the input reads as it did. -/
def fnExactChartMeetSpec : ChangeSpec := { name := "fnExactChartMeet", fn := fun _ => fun
  | [d1, d2] => { results := [.lit (.bool true)], args := [d1, d2] }
  | _ => none }
def fnExactChartMeetRow : OpenClaim := { program := "ytdmobfjcbjengac", sum := "e339505359d8b4b039e4a032fa32d5640f2c4cb0f1e67f2aadbfd6ccb7bc21fc", func := "loop.example/partialcharts/laws.FnExactChartMeet", spec := "fnExactChartMeet", unfollowed := true, recurses := true, apart := false }
def FnExactChartMeetSaid : Prop := fnExactChartMeetRow.holds Try.pinned (OpenSpec.ofChange fnExactChartMeetSpec)

/-- ITS FALSE NEIGHBOUR: 'it returns false'. Refute it at one input. -/
def fnExactChartMeetWrong : ChangeSpec := { name := "fnExactChartMeet", fn := fun _ => fun
  | [d1, d2] => { results := [.lit (.bool false)], args := [d1, d2] }
  | _ => none }
def FnExactChartMeetWrongFalsely : Prop := fnExactChartMeetRow.holds Try.pinned (OpenSpec.ofChange fnExactChartMeetWrong)

/-- 'laws.FnExactChartCompatible': WHATEVER THE INPUT: true; the input reads as it did. -/
def fnExactChartCompatibleSpec : ChangeSpec := { name := "fnExactChartCompatible", fn := fun _ => fun
  | [d1, d2] => { results := [.lit (.bool true)], args := [d1, d2] }
  | _ => none }
def fnExactChartCompatibleRow : OpenClaim := { program := "ytdmobfjcbjengac", sum := "e339505359d8b4b039e4a032fa32d5640f2c4cb0f1e67f2aadbfd6ccb7bc21fc", func := "loop.example/partialcharts/laws.FnExactChartCompatible", spec := "fnExactChartCompatible", unfollowed := true, recurses := true, apart := false }
def FnExactChartCompatibleSaid : Prop := fnExactChartCompatibleRow.holds Try.pinned (OpenSpec.ofChange fnExactChartCompatibleSpec)

/-- ITS FALSE NEIGHBOUR: 'it returns false'. Refute it at one input. -/
def fnExactChartCompatibleWrong : ChangeSpec := { name := "fnExactChartCompatible", fn := fun _ => fun
  | [d1, d2] => { results := [.lit (.bool false)], args := [d1, d2] }
  | _ => none }
def FnExactChartCompatibleWrongFalsely : Prop := fnExactChartCompatibleRow.holds Try.pinned (OpenSpec.ofChange fnExactChartCompatibleWrong)

/-- 'laws.FnExactChartJoin': WHATEVER THE INPUT: true; the input reads as it did. -/
def fnExactChartJoinSpec : ChangeSpec := { name := "fnExactChartJoin", fn := fun _ => fun
  | [d1, d2] => { results := [.lit (.bool true)], args := [d1, d2] }
  | _ => none }
def fnExactChartJoinRow : OpenClaim := { program := "ytdmobfjcbjengac", sum := "e339505359d8b4b039e4a032fa32d5640f2c4cb0f1e67f2aadbfd6ccb7bc21fc", func := "loop.example/partialcharts/laws.FnExactChartJoin", spec := "fnExactChartJoin", unfollowed := true, recurses := true, apart := false }
def FnExactChartJoinSaid : Prop := fnExactChartJoinRow.holds Try.pinned (OpenSpec.ofChange fnExactChartJoinSpec)

/-- ITS FALSE NEIGHBOUR: 'it returns false'. Refute it at one input. -/
def fnExactChartJoinWrong : ChangeSpec := { name := "fnExactChartJoin", fn := fun _ => fun
  | [d1, d2] => { results := [.lit (.bool false)], args := [d1, d2] }
  | _ => none }
def FnExactChartJoinWrongFalsely : Prop := fnExactChartJoinRow.holds Try.pinned (OpenSpec.ofChange fnExactChartJoinWrong)

/-- 'laws.FnExactChartCut': WHATEVER THE INPUT: true; the input reads as it did. -/
def fnExactChartCutSpec : ChangeSpec := { name := "fnExactChartCut", fn := fun _ => fun
  | [d1, d2] => { results := [.lit (.bool true)], args := [d1, d2] }
  | _ => none }
def fnExactChartCutRow : OpenClaim := { program := "ytdmobfjcbjengac", sum := "e339505359d8b4b039e4a032fa32d5640f2c4cb0f1e67f2aadbfd6ccb7bc21fc", func := "loop.example/partialcharts/laws.FnExactChartCut", spec := "fnExactChartCut", unfollowed := true, recurses := true, apart := false }
def FnExactChartCutSaid : Prop := fnExactChartCutRow.holds Try.pinned (OpenSpec.ofChange fnExactChartCutSpec)

/-- ITS FALSE NEIGHBOUR: 'it returns false'. Refute it at one input. -/
def fnExactChartCutWrong : ChangeSpec := { name := "fnExactChartCut", fn := fun _ => fun
  | [d1, d2] => { results := [.lit (.bool false)], args := [d1, d2] }
  | _ => none }
def FnExactChartCutWrongFalsely : Prop := fnExactChartCutRow.holds Try.pinned (OpenSpec.ofChange fnExactChartCutWrong)

/- THE SECOND FORM. 'bulk': how many values and letters a reading holds, each counted each time it is reached (what is shared counts as often as it is met; a slice's spare places count too). A statement '..UptoSaid' is the law's where the arguments, and the package variables that the reading takes, are together of bulk at most 1048576: NARROWER than '..Said'. Prove '..Said' where nothing that the law and all that it calls make is longer than what came in: it says more and counts as full. Else prove '..UptoSaid'. A law counts once. -/
mutual
def uptoBulk {H : Type} : DataW H → Nat
  | .lit (.string bytes) => bytes.length + 1
  | .lit _ => 1
  | .nil => 1
  | .ptr d => uptoBulk d + 1
  | .slice elems spare => uptoBulkAll elems + uptoBulkAll spare + 1
  | .agg parts => uptoBulkAll parts + 1
  | .iface _ d => uptoBulk d + 1
  | .map entries => uptoBulkEntries entries + 1
  | .held _ => 1
def uptoBulkAll {H : Type} : List (DataW H) → Nat
  | [] => 0
  | d :: r => uptoBulk d + uptoBulkAll r
def uptoBulkEntries {H : Type} : List (Lit × DataW H) → Nat
  | [] => 0
  | x :: r => uptoBulkEntry x + uptoBulkEntries r
def uptoBulkEntry {H : Type} : Lit × DataW H → Nat
  | (.string bytes, d) => bytes.length + uptoBulk d + 1
  | (_, d) => uptoBulk d + 1
 end
def uptoSmall : (H : Type) → List (DataW H) → Bool := fun _ ds => decide (uptoBulkAll ds ≤ 1048576)
def OpenSpec.upto (s : _root_.Go.ChangeSpec) : _root_.Go.OpenSpec := { _root_.Go.OpenSpec.ofChange s with cond := some uptoSmall }

/-- 'laws.FnExactChartMeet', WHERE WHAT IT READS IS OF BULK AT MOST 1048576: true; the input reads as it did. -/
def fnExactChartMeetUptoRow : OpenClaim := { program := "ytdmobfjcbjengac", sum := "e339505359d8b4b039e4a032fa32d5640f2c4cb0f1e67f2aadbfd6ccb7bc21fc", func := "loop.example/partialcharts/laws.FnExactChartMeet", spec := "fnExactChartMeet", unfollowed := true, recurses := true, apart := false, narrowed := true }
def FnExactChartMeetUptoSaid : Prop := fnExactChartMeetUptoRow.holds Try.pinned (OpenSpec.upto fnExactChartMeetSpec)

/-- 'laws.FnExactChartCompatible', WHERE WHAT IT READS IS OF BULK AT MOST 1048576: true; the input reads as it did. -/
def fnExactChartCompatibleUptoRow : OpenClaim := { program := "ytdmobfjcbjengac", sum := "e339505359d8b4b039e4a032fa32d5640f2c4cb0f1e67f2aadbfd6ccb7bc21fc", func := "loop.example/partialcharts/laws.FnExactChartCompatible", spec := "fnExactChartCompatible", unfollowed := true, recurses := true, apart := false, narrowed := true }
def FnExactChartCompatibleUptoSaid : Prop := fnExactChartCompatibleUptoRow.holds Try.pinned (OpenSpec.upto fnExactChartCompatibleSpec)

/-- 'laws.FnExactChartJoin', WHERE WHAT IT READS IS OF BULK AT MOST 1048576: true; the input reads as it did. -/
def fnExactChartJoinUptoRow : OpenClaim := { program := "ytdmobfjcbjengac", sum := "e339505359d8b4b039e4a032fa32d5640f2c4cb0f1e67f2aadbfd6ccb7bc21fc", func := "loop.example/partialcharts/laws.FnExactChartJoin", spec := "fnExactChartJoin", unfollowed := true, recurses := true, apart := false, narrowed := true }
def FnExactChartJoinUptoSaid : Prop := fnExactChartJoinUptoRow.holds Try.pinned (OpenSpec.upto fnExactChartJoinSpec)

/-- 'laws.FnExactChartCut', WHERE WHAT IT READS IS OF BULK AT MOST 1048576: true; the input reads as it did. -/
def fnExactChartCutUptoRow : OpenClaim := { program := "ytdmobfjcbjengac", sum := "e339505359d8b4b039e4a032fa32d5640f2c4cb0f1e67f2aadbfd6ccb7bc21fc", func := "loop.example/partialcharts/laws.FnExactChartCut", spec := "fnExactChartCut", unfollowed := true, recurses := true, apart := false, narrowed := true }
def FnExactChartCutUptoSaid : Prop := fnExactChartCutUptoRow.holds Try.pinned (OpenSpec.upto fnExactChartCutSpec)

end Rows
end Go.Proofs.Ytdmobfjcbjengac
