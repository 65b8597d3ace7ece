/-
  No cell of these rows narrows 'for every input' (looked for: loops, veiled, ifaces, maps, wideKeys, modest, calm, conditions, laid).
  DERIVED. THE GIVEN ROWS OF THIS SEAT. 12 by the template 'for every input the law returns true; each argument reads behind the call as it read before'; 0 by the template 'total and deterministic' (their statements: YtdmobfjcbjengabTotals.lean).
  GIVEN WITH THE SEED: the statements are not yours to turn. If you find one false, say at which input.
  Laid BY PROGRAM, IN A SANDBOX (cutbox-rows.mjs): the forced cells as the released guide's own fill.sh prints them over the translation a6c35aac74f5e429… (all of the seat's roots in one cut). By AI agents, Wed Nov 11 2026. No macro, syntax, notation, axiom, sorry.
-/
import Derived.Test.YtdmobfjcbjengabChecked
import GoSem.Claim
import GoSem.ClaimJoined
import GoSem.ClaimMapViews
import Derived.JoinedTies
import Derived.KernelRfl
namespace Go.Proofs.Ytdmobfjcbjengab
/- THE CELL 'sum', in the pinned program and in every row, IS THE sha256 OF THE DUMP (.gsa) THAT YtdmobfjcbjengabProg.lean LOADS. Nothing in Lean hashes anything: it is a label: what it is worth is what the hold of that sum in a sandbox is worth. -/
noncomputable def Try.pinned : Pinned := { name := "ytdmobfjcbjengab", sum := "a6c35aac74f5e42943418c3aad2c880bb83e326480ca6fbfb244e014ebadb330", checked := Try.checked }
namespace Rows
def none {H : Type} : Left H := { results := [], args := [] }

/-- 'laws.FnJoin': WHATEVER THE INPUT: true; the input reads as it did. -/
def fnJoinSpec : ChangeSpec := { name := "fnJoin", fn := fun _ => fun
  | [d] => { results := [.lit (.bool true)], args := [d] }
  | _ => none }
def fnJoinRow : OpenClaim := { program := "ytdmobfjcbjengab", sum := "a6c35aac74f5e42943418c3aad2c880bb83e326480ca6fbfb244e014ebadb330", func := "loop.example/partialcharts/laws.FnJoin", spec := "fnJoin", unfollowed := true, recurses := true, apart := false }
def FnJoinSaid : Prop := fnJoinRow.holds Try.pinned (OpenSpec.ofChange fnJoinSpec)

/-- ITS FALSE NEIGHBOUR: 'it returns false'. Refute it at one input. -/
def fnJoinWrong : ChangeSpec := { name := "fnJoin", fn := fun _ => fun
  | [d] => { results := [.lit (.bool false)], args := [d] }
  | _ => none }
def FnJoinWrongFalsely : Prop := fnJoinRow.holds Try.pinned (OpenSpec.ofChange fnJoinWrong)

/-- 'laws.FnCut': WHATEVER THE INPUT: true; the input reads as it did. -/
def fnCutSpec : ChangeSpec := { name := "fnCut", fn := fun _ => fun
  | [d] => { results := [.lit (.bool true)], args := [d] }
  | _ => none }
def fnCutRow : OpenClaim := { program := "ytdmobfjcbjengab", sum := "a6c35aac74f5e42943418c3aad2c880bb83e326480ca6fbfb244e014ebadb330", func := "loop.example/partialcharts/laws.FnCut", spec := "fnCut", unfollowed := true, recurses := true, apart := false }
def FnCutSaid : Prop := fnCutRow.holds Try.pinned (OpenSpec.ofChange fnCutSpec)

/-- ITS FALSE NEIGHBOUR: 'it returns false'. Refute it at one input. -/
def fnCutWrong : ChangeSpec := { name := "fnCut", fn := fun _ => fun
  | [d] => { results := [.lit (.bool false)], args := [d] }
  | _ => none }
def FnCutWrongFalsely : Prop := fnCutRow.holds Try.pinned (OpenSpec.ofChange fnCutWrong)

/-- 'laws.FnRank': WHATEVER THE INPUT: true; the input reads as it did. -/
def fnRankSpec : ChangeSpec := { name := "fnRank", fn := fun _ => fun
  | [d] => { results := [.lit (.bool true)], args := [d] }
  | _ => none }
def fnRankRow : OpenClaim := { program := "ytdmobfjcbjengab", sum := "a6c35aac74f5e42943418c3aad2c880bb83e326480ca6fbfb244e014ebadb330", func := "loop.example/partialcharts/laws.FnRank", spec := "fnRank", unfollowed := true, recurses := true, apart := false }
def FnRankSaid : Prop := fnRankRow.holds Try.pinned (OpenSpec.ofChange fnRankSpec)

/-- ITS FALSE NEIGHBOUR: 'it returns false'. Refute it at one input. -/
def fnRankWrong : ChangeSpec := { name := "fnRank", fn := fun _ => fun
  | [d] => { results := [.lit (.bool false)], args := [d] }
  | _ => none }
def FnRankWrongFalsely : Prop := fnRankRow.holds Try.pinned (OpenSpec.ofChange fnRankWrong)

/-- 'laws.FnExactChartIn': WHATEVER THE INPUT: true; the input reads as it did. -/
def fnExactChartInSpec : ChangeSpec := { name := "fnExactChartIn", fn := fun _ => fun
  | [d] => { results := [.lit (.bool true)], args := [d] }
  | _ => none }
def fnExactChartInRow : OpenClaim := { program := "ytdmobfjcbjengab", sum := "a6c35aac74f5e42943418c3aad2c880bb83e326480ca6fbfb244e014ebadb330", func := "loop.example/partialcharts/laws.FnExactChartIn", spec := "fnExactChartIn", apart := false }
def FnExactChartInSaid : Prop := fnExactChartInRow.holds Try.pinned (OpenSpec.ofChange fnExactChartInSpec)

/-- ITS FALSE NEIGHBOUR: 'it returns false'. Refute it at one input. -/
def fnExactChartInWrong : ChangeSpec := { name := "fnExactChartIn", fn := fun _ => fun
  | [d] => { results := [.lit (.bool false)], args := [d] }
  | _ => none }
def FnExactChartInWrongFalsely : Prop := fnExactChartInRow.holds Try.pinned (OpenSpec.ofChange fnExactChartInWrong)

/-- 'laws.FnExactChartTimes': WHATEVER THE INPUT: true; the input reads as it did. -/
def fnExactChartTimesSpec : ChangeSpec := { name := "fnExactChartTimes", fn := fun _ => fun
  | [d1, d2] => { results := [.lit (.bool true)], args := [d1, d2] }
  | _ => none }
def fnExactChartTimesRow : OpenClaim := { program := "ytdmobfjcbjengab", sum := "a6c35aac74f5e42943418c3aad2c880bb83e326480ca6fbfb244e014ebadb330", func := "loop.example/partialcharts/laws.FnExactChartTimes", spec := "fnExactChartTimes", unfollowed := true, recurses := true, apart := false }
def FnExactChartTimesSaid : Prop := fnExactChartTimesRow.holds Try.pinned (OpenSpec.ofChange fnExactChartTimesSpec)

/-- ITS FALSE NEIGHBOUR: 'it returns false'. Refute it at one input. -/
def fnExactChartTimesWrong : ChangeSpec := { name := "fnExactChartTimes", fn := fun _ => fun
  | [d1, d2] => { results := [.lit (.bool false)], args := [d1, d2] }
  | _ => none }
def FnExactChartTimesWrongFalsely : Prop := fnExactChartTimesRow.holds Try.pinned (OpenSpec.ofChange fnExactChartTimesWrong)

/-- 'laws.FnExactChartTurned': WHATEVER THE INPUT: true; the input reads as it did. -/
def fnExactChartTurnedSpec : ChangeSpec := { name := "fnExactChartTurned", fn := fun _ => fun
  | [d] => { results := [.lit (.bool true)], args := [d] }
  | _ => none }
def fnExactChartTurnedRow : OpenClaim := { program := "ytdmobfjcbjengab", sum := "a6c35aac74f5e42943418c3aad2c880bb83e326480ca6fbfb244e014ebadb330", func := "loop.example/partialcharts/laws.FnExactChartTurned", spec := "fnExactChartTurned", unfollowed := true, recurses := true, apart := false }
def FnExactChartTurnedSaid : Prop := fnExactChartTurnedRow.holds Try.pinned (OpenSpec.ofChange fnExactChartTurnedSpec)

/-- ITS FALSE NEIGHBOUR: 'it returns false'. Refute it at one input. -/
def fnExactChartTurnedWrong : ChangeSpec := { name := "fnExactChartTurned", fn := fun _ => fun
  | [d] => { results := [.lit (.bool false)], args := [d] }
  | _ => none }
def FnExactChartTurnedWrongFalsely : Prop := fnExactChartTurnedRow.holds Try.pinned (OpenSpec.ofChange fnExactChartTurnedWrong)

/-- 'laws.FnExactChartDomain': WHATEVER THE INPUT: true; the input reads as it did. -/
def fnExactChartDomainSpec : ChangeSpec := { name := "fnExactChartDomain", fn := fun _ => fun
  | [d] => { results := [.lit (.bool true)], args := [d] }
  | _ => none }
def fnExactChartDomainRow : OpenClaim := { program := "ytdmobfjcbjengab", sum := "a6c35aac74f5e42943418c3aad2c880bb83e326480ca6fbfb244e014ebadb330", func := "loop.example/partialcharts/laws.FnExactChartDomain", spec := "fnExactChartDomain", unfollowed := true, recurses := true, apart := false }
def FnExactChartDomainSaid : Prop := fnExactChartDomainRow.holds Try.pinned (OpenSpec.ofChange fnExactChartDomainSpec)

/-- ITS FALSE NEIGHBOUR: 'it returns false'. Refute it at one input. -/
def fnExactChartDomainWrong : ChangeSpec := { name := "fnExactChartDomain", fn := fun _ => fun
  | [d] => { results := [.lit (.bool false)], args := [d] }
  | _ => none }
def FnExactChartDomainWrongFalsely : Prop := fnExactChartDomainRow.holds Try.pinned (OpenSpec.ofChange fnExactChartDomainWrong)

/-- 'laws.FnExactChartRange': WHATEVER THE INPUT: true; the input reads as it did. -/
def fnExactChartRangeSpec : ChangeSpec := { name := "fnExactChartRange", fn := fun _ => fun
  | [d] => { results := [.lit (.bool true)], args := [d] }
  | _ => none }
def fnExactChartRangeRow : OpenClaim := { program := "ytdmobfjcbjengab", sum := "a6c35aac74f5e42943418c3aad2c880bb83e326480ca6fbfb244e014ebadb330", func := "loop.example/partialcharts/laws.FnExactChartRange", spec := "fnExactChartRange", unfollowed := true, recurses := true, apart := false }
def FnExactChartRangeSaid : Prop := fnExactChartRangeRow.holds Try.pinned (OpenSpec.ofChange fnExactChartRangeSpec)

/-- ITS FALSE NEIGHBOUR: 'it returns false'. Refute it at one input. -/
def fnExactChartRangeWrong : ChangeSpec := { name := "fnExactChartRange", fn := fun _ => fun
  | [d] => { results := [.lit (.bool false)], args := [d] }
  | _ => none }
def FnExactChartRangeWrongFalsely : Prop := fnExactChartRangeRow.holds Try.pinned (OpenSpec.ofChange fnExactChartRangeWrong)

/-- 'laws.FnExactChartRank': WHATEVER THE INPUT: true; the input reads as it did. -/
def fnExactChartRankSpec : ChangeSpec := { name := "fnExactChartRank", fn := fun _ => fun
  | [d] => { results := [.lit (.bool true)], args := [d] }
  | _ => none }
def fnExactChartRankRow : OpenClaim := { program := "ytdmobfjcbjengab", sum := "a6c35aac74f5e42943418c3aad2c880bb83e326480ca6fbfb244e014ebadb330", func := "loop.example/partialcharts/laws.FnExactChartRank", spec := "fnExactChartRank", unfollowed := true, recurses := true, apart := false }
def FnExactChartRankSaid : Prop := fnExactChartRankRow.holds Try.pinned (OpenSpec.ofChange fnExactChartRankSpec)

/-- ITS FALSE NEIGHBOUR: 'it returns false'. Refute it at one input. -/
def fnExactChartRankWrong : ChangeSpec := { name := "fnExactChartRank", fn := fun _ => fun
  | [d] => { results := [.lit (.bool false)], args := [d] }
  | _ => none }
def FnExactChartRankWrongFalsely : Prop := fnExactChartRankRow.holds Try.pinned (OpenSpec.ofChange fnExactChartRankWrong)

/-- 'laws.FnExactChartSet': WHATEVER THE INPUT: true; the input reads as it did. -/
def fnExactChartSetSpec : ChangeSpec := { name := "fnExactChartSet", fn := fun _ => fun
  | [d1, d2] => { results := [.lit (.bool true)], args := [d1, d2] }
  | _ => none }
def fnExactChartSetRow : OpenClaim := { program := "ytdmobfjcbjengab", sum := "a6c35aac74f5e42943418c3aad2c880bb83e326480ca6fbfb244e014ebadb330", func := "loop.example/partialcharts/laws.FnExactChartSet", spec := "fnExactChartSet", unfollowed := true, recurses := true, apart := false }
def FnExactChartSetSaid : Prop := fnExactChartSetRow.holds Try.pinned (OpenSpec.ofChange fnExactChartSetSpec)

/-- ITS FALSE NEIGHBOUR: 'it returns false'. Refute it at one input. -/
def fnExactChartSetWrong : ChangeSpec := { name := "fnExactChartSet", fn := fun _ => fun
  | [d1, d2] => { results := [.lit (.bool false)], args := [d1, d2] }
  | _ => none }
def FnExactChartSetWrongFalsely : Prop := fnExactChartSetRow.holds Try.pinned (OpenSpec.ofChange fnExactChartSetWrong)

/-- 'laws.FnExactChartIdem': WHATEVER THE INPUT: true; the input reads as it did. -/
def fnExactChartIdemSpec : ChangeSpec := { name := "fnExactChartIdem", fn := fun _ => fun
  | [d] => { results := [.lit (.bool true)], args := [d] }
  | _ => none }
def fnExactChartIdemRow : OpenClaim := { program := "ytdmobfjcbjengab", sum := "a6c35aac74f5e42943418c3aad2c880bb83e326480ca6fbfb244e014ebadb330", func := "loop.example/partialcharts/laws.FnExactChartIdem", spec := "fnExactChartIdem", unfollowed := true, recurses := true, apart := false }
def FnExactChartIdemSaid : Prop := fnExactChartIdemRow.holds Try.pinned (OpenSpec.ofChange fnExactChartIdemSpec)

/-- ITS FALSE NEIGHBOUR: 'it returns false'. Refute it at one input. -/
def fnExactChartIdemWrong : ChangeSpec := { name := "fnExactChartIdem", fn := fun _ => fun
  | [d] => { results := [.lit (.bool false)], args := [d] }
  | _ => none }
def FnExactChartIdemWrongFalsely : Prop := fnExactChartIdemRow.holds Try.pinned (OpenSpec.ofChange fnExactChartIdemWrong)

/-- 'laws.FnExactChartBelow': WHATEVER THE INPUT: true; the input reads as it did. -/
def fnExactChartBelowSpec : ChangeSpec := { name := "fnExactChartBelow", fn := fun _ => fun
  | [d1, d2] => { results := [.lit (.bool true)], args := [d1, d2] }
  | _ => none }
def fnExactChartBelowRow : OpenClaim := { program := "ytdmobfjcbjengab", sum := "a6c35aac74f5e42943418c3aad2c880bb83e326480ca6fbfb244e014ebadb330", func := "loop.example/partialcharts/laws.FnExactChartBelow", spec := "fnExactChartBelow", unfollowed := true, recurses := true, apart := false }
def FnExactChartBelowSaid : Prop := fnExactChartBelowRow.holds Try.pinned (OpenSpec.ofChange fnExactChartBelowSpec)

/-- ITS FALSE NEIGHBOUR: 'it returns false'. Refute it at one input. -/
def fnExactChartBelowWrong : ChangeSpec := { name := "fnExactChartBelow", fn := fun _ => fun
  | [d1, d2] => { results := [.lit (.bool false)], args := [d1, d2] }
  | _ => none }
def FnExactChartBelowWrongFalsely : Prop := fnExactChartBelowRow.holds Try.pinned (OpenSpec.ofChange fnExactChartBelowWrong)

/- THE SECOND FORM. 'bulk': how many values and letters a reading holds, each counted each time it is reached (what is shared counts as often as it is met; a slice's spare places count too). A statement '..UptoSaid' is the law's where the arguments, and the package variables that the reading takes, are together of bulk at most 1048576: NARROWER than '..Said'. Prove '..Said' where nothing that the law and all that it calls make is longer than what came in: it says more and counts as full. Else prove '..UptoSaid'. A law counts once. -/
mutual
def uptoBulk {H : Type} : DataW H → Nat
  | .lit (.string bytes) => bytes.length + 1
  | .lit _ => 1
  | .nil => 1
  | .ptr d => uptoBulk d + 1
  | .slice elems spare => uptoBulkAll elems + uptoBulkAll spare + 1
  | .agg parts => uptoBulkAll parts + 1
  | .iface _ d => uptoBulk d + 1
  | .map entries => uptoBulkEntries entries + 1
  | .held _ => 1
def uptoBulkAll {H : Type} : List (DataW H) → Nat
  | [] => 0
  | d :: r => uptoBulk d + uptoBulkAll r
def uptoBulkEntries {H : Type} : List (Lit × DataW H) → Nat
  | [] => 0
  | x :: r => uptoBulkEntry x + uptoBulkEntries r
def uptoBulkEntry {H : Type} : Lit × DataW H → Nat
  | (.string bytes, d) => bytes.length + uptoBulk d + 1
  | (_, d) => uptoBulk d + 1
 end
def uptoSmall : (H : Type) → List (DataW H) → Bool := fun _ ds => decide (uptoBulkAll ds ≤ 1048576)
def OpenSpec.upto (s : _root_.Go.ChangeSpec) : _root_.Go.OpenSpec := { _root_.Go.OpenSpec.ofChange s with cond := some uptoSmall }

/-- 'laws.FnJoin', WHERE WHAT IT READS IS OF BULK AT MOST 1048576: true; the input reads as it did. -/
def fnJoinUptoRow : OpenClaim := { program := "ytdmobfjcbjengab", sum := "a6c35aac74f5e42943418c3aad2c880bb83e326480ca6fbfb244e014ebadb330", func := "loop.example/partialcharts/laws.FnJoin", spec := "fnJoin", unfollowed := true, recurses := true, apart := false, narrowed := true }
def FnJoinUptoSaid : Prop := fnJoinUptoRow.holds Try.pinned (OpenSpec.upto fnJoinSpec)

/-- 'laws.FnCut', WHERE WHAT IT READS IS OF BULK AT MOST 1048576: true; the input reads as it did. -/
def fnCutUptoRow : OpenClaim := { program := "ytdmobfjcbjengab", sum := "a6c35aac74f5e42943418c3aad2c880bb83e326480ca6fbfb244e014ebadb330", func := "loop.example/partialcharts/laws.FnCut", spec := "fnCut", unfollowed := true, recurses := true, apart := false, narrowed := true }
def FnCutUptoSaid : Prop := fnCutUptoRow.holds Try.pinned (OpenSpec.upto fnCutSpec)

/-- 'laws.FnRank', WHERE WHAT IT READS IS OF BULK AT MOST 1048576: true; the input reads as it did. -/
def fnRankUptoRow : OpenClaim := { program := "ytdmobfjcbjengab", sum := "a6c35aac74f5e42943418c3aad2c880bb83e326480ca6fbfb244e014ebadb330", func := "loop.example/partialcharts/laws.FnRank", spec := "fnRank", unfollowed := true, recurses := true, apart := false, narrowed := true }
def FnRankUptoSaid : Prop := fnRankUptoRow.holds Try.pinned (OpenSpec.upto fnRankSpec)

/-- 'laws.FnExactChartIn', WHERE WHAT IT READS IS OF BULK AT MOST 1048576: true; the input reads as it did. -/
def fnExactChartInUptoRow : OpenClaim := { program := "ytdmobfjcbjengab", sum := "a6c35aac74f5e42943418c3aad2c880bb83e326480ca6fbfb244e014ebadb330", func := "loop.example/partialcharts/laws.FnExactChartIn", spec := "fnExactChartIn", apart := false, narrowed := true }
def FnExactChartInUptoSaid : Prop := fnExactChartInUptoRow.holds Try.pinned (OpenSpec.upto fnExactChartInSpec)

/-- 'laws.FnExactChartTimes', WHERE WHAT IT READS IS OF BULK AT MOST 1048576: true; the input reads as it did. -/
def fnExactChartTimesUptoRow : OpenClaim := { program := "ytdmobfjcbjengab", sum := "a6c35aac74f5e42943418c3aad2c880bb83e326480ca6fbfb244e014ebadb330", func := "loop.example/partialcharts/laws.FnExactChartTimes", spec := "fnExactChartTimes", unfollowed := true, recurses := true, apart := false, narrowed := true }
def FnExactChartTimesUptoSaid : Prop := fnExactChartTimesUptoRow.holds Try.pinned (OpenSpec.upto fnExactChartTimesSpec)

/-- 'laws.FnExactChartTurned', WHERE WHAT IT READS IS OF BULK AT MOST 1048576: true; the input reads as it did. -/
def fnExactChartTurnedUptoRow : OpenClaim := { program := "ytdmobfjcbjengab", sum := "a6c35aac74f5e42943418c3aad2c880bb83e326480ca6fbfb244e014ebadb330", func := "loop.example/partialcharts/laws.FnExactChartTurned", spec := "fnExactChartTurned", unfollowed := true, recurses := true, apart := false, narrowed := true }
def FnExactChartTurnedUptoSaid : Prop := fnExactChartTurnedUptoRow.holds Try.pinned (OpenSpec.upto fnExactChartTurnedSpec)

/-- 'laws.FnExactChartDomain', WHERE WHAT IT READS IS OF BULK AT MOST 1048576: true; the input reads as it did. -/
def fnExactChartDomainUptoRow : OpenClaim := { program := "ytdmobfjcbjengab", sum := "a6c35aac74f5e42943418c3aad2c880bb83e326480ca6fbfb244e014ebadb330", func := "loop.example/partialcharts/laws.FnExactChartDomain", spec := "fnExactChartDomain", unfollowed := true, recurses := true, apart := false, narrowed := true }
def FnExactChartDomainUptoSaid : Prop := fnExactChartDomainUptoRow.holds Try.pinned (OpenSpec.upto fnExactChartDomainSpec)

/-- 'laws.FnExactChartRange', WHERE WHAT IT READS IS OF BULK AT MOST 1048576: true; the input reads as it did. -/
def fnExactChartRangeUptoRow : OpenClaim := { program := "ytdmobfjcbjengab", sum := "a6c35aac74f5e42943418c3aad2c880bb83e326480ca6fbfb244e014ebadb330", func := "loop.example/partialcharts/laws.FnExactChartRange", spec := "fnExactChartRange", unfollowed := true, recurses := true, apart := false, narrowed := true }
def FnExactChartRangeUptoSaid : Prop := fnExactChartRangeUptoRow.holds Try.pinned (OpenSpec.upto fnExactChartRangeSpec)

/-- 'laws.FnExactChartRank', WHERE WHAT IT READS IS OF BULK AT MOST 1048576: true; the input reads as it did. -/
def fnExactChartRankUptoRow : OpenClaim := { program := "ytdmobfjcbjengab", sum := "a6c35aac74f5e42943418c3aad2c880bb83e326480ca6fbfb244e014ebadb330", func := "loop.example/partialcharts/laws.FnExactChartRank", spec := "fnExactChartRank", unfollowed := true, recurses := true, apart := false, narrowed := true }
def FnExactChartRankUptoSaid : Prop := fnExactChartRankUptoRow.holds Try.pinned (OpenSpec.upto fnExactChartRankSpec)

/-- 'laws.FnExactChartSet', WHERE WHAT IT READS IS OF BULK AT MOST 1048576: true; the input reads as it did. -/
def fnExactChartSetUptoRow : OpenClaim := { program := "ytdmobfjcbjengab", sum := "a6c35aac74f5e42943418c3aad2c880bb83e326480ca6fbfb244e014ebadb330", func := "loop.example/partialcharts/laws.FnExactChartSet", spec := "fnExactChartSet", unfollowed := true, recurses := true, apart := false, narrowed := true }
def FnExactChartSetUptoSaid : Prop := fnExactChartSetUptoRow.holds Try.pinned (OpenSpec.upto fnExactChartSetSpec)

/-- 'laws.FnExactChartIdem', WHERE WHAT IT READS IS OF BULK AT MOST 1048576: true; the input reads as it did. -/
def fnExactChartIdemUptoRow : OpenClaim := { program := "ytdmobfjcbjengab", sum := "a6c35aac74f5e42943418c3aad2c880bb83e326480ca6fbfb244e014ebadb330", func := "loop.example/partialcharts/laws.FnExactChartIdem", spec := "fnExactChartIdem", unfollowed := true, recurses := true, apart := false, narrowed := true }
def FnExactChartIdemUptoSaid : Prop := fnExactChartIdemUptoRow.holds Try.pinned (OpenSpec.upto fnExactChartIdemSpec)

/-- 'laws.FnExactChartBelow', WHERE WHAT IT READS IS OF BULK AT MOST 1048576: true; the input reads as it did. -/
def fnExactChartBelowUptoRow : OpenClaim := { program := "ytdmobfjcbjengab", sum := "a6c35aac74f5e42943418c3aad2c880bb83e326480ca6fbfb244e014ebadb330", func := "loop.example/partialcharts/laws.FnExactChartBelow", spec := "fnExactChartBelow", unfollowed := true, recurses := true, apart := false, narrowed := true }
def FnExactChartBelowUptoSaid : Prop := fnExactChartBelowUptoRow.holds Try.pinned (OpenSpec.upto fnExactChartBelowSpec)

end Rows
end Go.Proofs.Ytdmobfjcbjengab
