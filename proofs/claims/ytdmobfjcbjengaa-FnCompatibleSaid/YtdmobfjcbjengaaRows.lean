/-
  No cell of these rows narrows 'for every input' (looked for: loops, veiled, ifaces, maps, wideKeys, modest, calm, conditions, laid).
  DERIVED. THE GIVEN ROWS OF THIS SEAT. 12 by the template 'for every input the law returns true; each argument reads behind the call as it read before'; 0 by the template 'total and deterministic' (their statements: YtdmobfjcbjengaaTotals.lean).
  GIVEN WITH THE SEED: the statements are not yours to turn. If you find one false, say at which input.
  Laid BY PROGRAM, IN A SANDBOX (cutbox-rows.mjs): the forced cells as the released guide's own fill.sh prints them over the translation 61aa59bac6037769… (all of the seat's roots in one cut). By AI agents, Wed Nov 11 2026. No macro, syntax, notation, axiom, sorry.
-/
import Derived.Test.YtdmobfjcbjengaaChecked
import GoSem.Claim
import GoSem.ClaimJoined
import GoSem.ClaimMapViews
import Derived.JoinedTies
import Derived.KernelRfl
namespace Go.Proofs.Ytdmobfjcbjengaa
/- THE CELL 'sum', in the pinned program and in every row, IS THE sha256 OF THE DUMP (.gsa) THAT YtdmobfjcbjengaaProg.lean LOADS. Nothing in Lean hashes anything: it is a label: what it is worth is what the hold of that sum in a sandbox is worth. -/
noncomputable def Try.pinned : Pinned := { name := "ytdmobfjcbjengaa", sum := "61aa59bac603776939f1ea3540dba0d24b96ebf63822e144a8eff6b37fda546e", checked := Try.checked }
namespace Rows
def none {H : Type} : Left H := { results := [], args := [] }

/-- 'laws.FnBrackets': WHATEVER THE INPUT: true; the input reads as it did. -/
def fnBracketsSpec : ChangeSpec := { name := "fnBrackets", fn := fun _ => fun
  | [d] => { results := [.lit (.bool true)], args := [d] }
  | _ => none }
def fnBracketsRow : OpenClaim := { program := "ytdmobfjcbjengaa", sum := "61aa59bac603776939f1ea3540dba0d24b96ebf63822e144a8eff6b37fda546e", func := "loop.example/partialcharts/laws.FnBrackets", spec := "fnBrackets", unfollowed := true, recurses := true, apart := false }
def FnBracketsSaid : Prop := fnBracketsRow.holds Try.pinned (OpenSpec.ofChange fnBracketsSpec)

/-- ITS FALSE NEIGHBOUR: 'it returns false'. Refute it at one input. -/
def fnBracketsWrong : ChangeSpec := { name := "fnBrackets", fn := fun _ => fun
  | [d] => { results := [.lit (.bool false)], args := [d] }
  | _ => none }
def FnBracketsWrongFalsely : Prop := fnBracketsRow.holds Try.pinned (OpenSpec.ofChange fnBracketsWrong)

/-- 'laws.FnChart': WHATEVER THE INPUT: true; the input reads as it did. -/
def fnChartSpec : ChangeSpec := { name := "fnChart", fn := fun _ => fun
  | [d] => { results := [.lit (.bool true)], args := [d] }
  | _ => none }
def fnChartRow : OpenClaim := { program := "ytdmobfjcbjengaa", sum := "61aa59bac603776939f1ea3540dba0d24b96ebf63822e144a8eff6b37fda546e", func := "loop.example/partialcharts/laws.FnChart", spec := "fnChart", unfollowed := true, recurses := true, apart := false }
def FnChartSaid : Prop := fnChartRow.holds Try.pinned (OpenSpec.ofChange fnChartSpec)

/-- ITS FALSE NEIGHBOUR: 'it returns false'. Refute it at one input. -/
def fnChartWrong : ChangeSpec := { name := "fnChart", fn := fun _ => fun
  | [d] => { results := [.lit (.bool false)], args := [d] }
  | _ => none }
def FnChartWrongFalsely : Prop := fnChartRow.holds Try.pinned (OpenSpec.ofChange fnChartWrong)

/-- 'laws.FnTimes': WHATEVER THE INPUT: true; the input reads as it did. -/
def fnTimesSpec : ChangeSpec := { name := "fnTimes", fn := fun _ => fun
  | [d] => { results := [.lit (.bool true)], args := [d] }
  | _ => none }
def fnTimesRow : OpenClaim := { program := "ytdmobfjcbjengaa", sum := "61aa59bac603776939f1ea3540dba0d24b96ebf63822e144a8eff6b37fda546e", func := "loop.example/partialcharts/laws.FnTimes", spec := "fnTimes", unfollowed := true, recurses := true, apart := false }
def FnTimesSaid : Prop := fnTimesRow.holds Try.pinned (OpenSpec.ofChange fnTimesSpec)

/-- ITS FALSE NEIGHBOUR: 'it returns false'. Refute it at one input. -/
def fnTimesWrong : ChangeSpec := { name := "fnTimes", fn := fun _ => fun
  | [d] => { results := [.lit (.bool false)], args := [d] }
  | _ => none }
def FnTimesWrongFalsely : Prop := fnTimesRow.holds Try.pinned (OpenSpec.ofChange fnTimesWrong)

/-- 'laws.FnTurned': WHATEVER THE INPUT: true; the input reads as it did. -/
def fnTurnedSpec : ChangeSpec := { name := "fnTurned", fn := fun _ => fun
  | [d] => { results := [.lit (.bool true)], args := [d] }
  | _ => none }
def fnTurnedRow : OpenClaim := { program := "ytdmobfjcbjengaa", sum := "61aa59bac603776939f1ea3540dba0d24b96ebf63822e144a8eff6b37fda546e", func := "loop.example/partialcharts/laws.FnTurned", spec := "fnTurned", unfollowed := true, recurses := true, apart := false }
def FnTurnedSaid : Prop := fnTurnedRow.holds Try.pinned (OpenSpec.ofChange fnTurnedSpec)

/-- ITS FALSE NEIGHBOUR: 'it returns false'. Refute it at one input. -/
def fnTurnedWrong : ChangeSpec := { name := "fnTurned", fn := fun _ => fun
  | [d] => { results := [.lit (.bool false)], args := [d] }
  | _ => none }
def FnTurnedWrongFalsely : Prop := fnTurnedRow.holds Try.pinned (OpenSpec.ofChange fnTurnedWrong)

/-- 'laws.FnDomain': WHATEVER THE INPUT: true; the input reads as it did. -/
def fnDomainSpec : ChangeSpec := { name := "fnDomain", fn := fun _ => fun
  | [d] => { results := [.lit (.bool true)], args := [d] }
  | _ => none }
def fnDomainRow : OpenClaim := { program := "ytdmobfjcbjengaa", sum := "61aa59bac603776939f1ea3540dba0d24b96ebf63822e144a8eff6b37fda546e", func := "loop.example/partialcharts/laws.FnDomain", spec := "fnDomain", unfollowed := true, recurses := true, apart := false }
def FnDomainSaid : Prop := fnDomainRow.holds Try.pinned (OpenSpec.ofChange fnDomainSpec)

/-- ITS FALSE NEIGHBOUR: 'it returns false'. Refute it at one input. -/
def fnDomainWrong : ChangeSpec := { name := "fnDomain", fn := fun _ => fun
  | [d] => { results := [.lit (.bool false)], args := [d] }
  | _ => none }
def FnDomainWrongFalsely : Prop := fnDomainRow.holds Try.pinned (OpenSpec.ofChange fnDomainWrong)

/-- 'laws.FnRange': WHATEVER THE INPUT: true; the input reads as it did. -/
def fnRangeSpec : ChangeSpec := { name := "fnRange", fn := fun _ => fun
  | [d] => { results := [.lit (.bool true)], args := [d] }
  | _ => none }
def fnRangeRow : OpenClaim := { program := "ytdmobfjcbjengaa", sum := "61aa59bac603776939f1ea3540dba0d24b96ebf63822e144a8eff6b37fda546e", func := "loop.example/partialcharts/laws.FnRange", spec := "fnRange", unfollowed := true, recurses := true, apart := false }
def FnRangeSaid : Prop := fnRangeRow.holds Try.pinned (OpenSpec.ofChange fnRangeSpec)

/-- ITS FALSE NEIGHBOUR: 'it returns false'. Refute it at one input. -/
def fnRangeWrong : ChangeSpec := { name := "fnRange", fn := fun _ => fun
  | [d] => { results := [.lit (.bool false)], args := [d] }
  | _ => none }
def FnRangeWrongFalsely : Prop := fnRangeRow.holds Try.pinned (OpenSpec.ofChange fnRangeWrong)

/-- 'laws.FnSet': WHATEVER THE INPUT: true; the input reads as it did. -/
def fnSetSpec : ChangeSpec := { name := "fnSet", fn := fun _ => fun
  | [d] => { results := [.lit (.bool true)], args := [d] }
  | _ => none }
def fnSetRow : OpenClaim := { program := "ytdmobfjcbjengaa", sum := "61aa59bac603776939f1ea3540dba0d24b96ebf63822e144a8eff6b37fda546e", func := "loop.example/partialcharts/laws.FnSet", spec := "fnSet", unfollowed := true, recurses := true, apart := false }
def FnSetSaid : Prop := fnSetRow.holds Try.pinned (OpenSpec.ofChange fnSetSpec)

/-- ITS FALSE NEIGHBOUR: 'it returns false'. Refute it at one input. -/
def fnSetWrong : ChangeSpec := { name := "fnSet", fn := fun _ => fun
  | [d] => { results := [.lit (.bool false)], args := [d] }
  | _ => none }
def FnSetWrongFalsely : Prop := fnSetRow.holds Try.pinned (OpenSpec.ofChange fnSetWrong)

/-- 'laws.FnIdem': WHATEVER THE INPUT: true; the input reads as it did. -/
def fnIdemSpec : ChangeSpec := { name := "fnIdem", fn := fun _ => fun
  | [d] => { results := [.lit (.bool true)], args := [d] }
  | _ => none }
def fnIdemRow : OpenClaim := { program := "ytdmobfjcbjengaa", sum := "61aa59bac603776939f1ea3540dba0d24b96ebf63822e144a8eff6b37fda546e", func := "loop.example/partialcharts/laws.FnIdem", spec := "fnIdem", unfollowed := true, recurses := true, apart := false }
def FnIdemSaid : Prop := fnIdemRow.holds Try.pinned (OpenSpec.ofChange fnIdemSpec)

/-- ITS FALSE NEIGHBOUR: 'it returns false'. Refute it at one input. -/
def fnIdemWrong : ChangeSpec := { name := "fnIdem", fn := fun _ => fun
  | [d] => { results := [.lit (.bool false)], args := [d] }
  | _ => none }
def FnIdemWrongFalsely : Prop := fnIdemRow.holds Try.pinned (OpenSpec.ofChange fnIdemWrong)

/-- 'laws.FnOwn': WHATEVER THE INPUT: true; the input reads as it did. -/
def fnOwnSpec : ChangeSpec := { name := "fnOwn", fn := fun _ => fun
  | [d] => { results := [.lit (.bool true)], args := [d] }
  | _ => none }
def fnOwnRow : OpenClaim := { program := "ytdmobfjcbjengaa", sum := "61aa59bac603776939f1ea3540dba0d24b96ebf63822e144a8eff6b37fda546e", func := "loop.example/partialcharts/laws.FnOwn", spec := "fnOwn", unfollowed := true, recurses := true, apart := false }
def FnOwnSaid : Prop := fnOwnRow.holds Try.pinned (OpenSpec.ofChange fnOwnSpec)

/-- ITS FALSE NEIGHBOUR: 'it returns false'. Refute it at one input. -/
def fnOwnWrong : ChangeSpec := { name := "fnOwn", fn := fun _ => fun
  | [d] => { results := [.lit (.bool false)], args := [d] }
  | _ => none }
def FnOwnWrongFalsely : Prop := fnOwnRow.holds Try.pinned (OpenSpec.ofChange fnOwnWrong)

/-- 'laws.FnBelow': WHATEVER THE INPUT: true; the input reads as it did. -/
def fnBelowSpec : ChangeSpec := { name := "fnBelow", fn := fun _ => fun
  | [d] => { results := [.lit (.bool true)], args := [d] }
  | _ => none }
def fnBelowRow : OpenClaim := { program := "ytdmobfjcbjengaa", sum := "61aa59bac603776939f1ea3540dba0d24b96ebf63822e144a8eff6b37fda546e", func := "loop.example/partialcharts/laws.FnBelow", spec := "fnBelow", unfollowed := true, recurses := true, apart := false }
def FnBelowSaid : Prop := fnBelowRow.holds Try.pinned (OpenSpec.ofChange fnBelowSpec)

/-- ITS FALSE NEIGHBOUR: 'it returns false'. Refute it at one input. -/
def fnBelowWrong : ChangeSpec := { name := "fnBelow", fn := fun _ => fun
  | [d] => { results := [.lit (.bool false)], args := [d] }
  | _ => none }
def FnBelowWrongFalsely : Prop := fnBelowRow.holds Try.pinned (OpenSpec.ofChange fnBelowWrong)

/-- 'laws.FnMeet': WHATEVER THE INPUT: true; the input reads as it did. -/
def fnMeetSpec : ChangeSpec := { name := "fnMeet", fn := fun _ => fun
  | [d] => { results := [.lit (.bool true)], args := [d] }
  | _ => none }
def fnMeetRow : OpenClaim := { program := "ytdmobfjcbjengaa", sum := "61aa59bac603776939f1ea3540dba0d24b96ebf63822e144a8eff6b37fda546e", func := "loop.example/partialcharts/laws.FnMeet", spec := "fnMeet", unfollowed := true, recurses := true, apart := false }
def FnMeetSaid : Prop := fnMeetRow.holds Try.pinned (OpenSpec.ofChange fnMeetSpec)

/-- ITS FALSE NEIGHBOUR: 'it returns false'. Refute it at one input. -/
def fnMeetWrong : ChangeSpec := { name := "fnMeet", fn := fun _ => fun
  | [d] => { results := [.lit (.bool false)], args := [d] }
  | _ => none }
def FnMeetWrongFalsely : Prop := fnMeetRow.holds Try.pinned (OpenSpec.ofChange fnMeetWrong)

/-- 'laws.FnCompatible': WHATEVER THE INPUT: true; the input reads as it did. -/
def fnCompatibleSpec : ChangeSpec := { name := "fnCompatible", fn := fun _ => fun
  | [d] => { results := [.lit (.bool true)], args := [d] }
  | _ => none }
def fnCompatibleRow : OpenClaim := { program := "ytdmobfjcbjengaa", sum := "61aa59bac603776939f1ea3540dba0d24b96ebf63822e144a8eff6b37fda546e", func := "loop.example/partialcharts/laws.FnCompatible", spec := "fnCompatible", unfollowed := true, recurses := true, apart := false }
def FnCompatibleSaid : Prop := fnCompatibleRow.holds Try.pinned (OpenSpec.ofChange fnCompatibleSpec)

/-- ITS FALSE NEIGHBOUR: 'it returns false'. Refute it at one input. -/
def fnCompatibleWrong : ChangeSpec := { name := "fnCompatible", fn := fun _ => fun
  | [d] => { results := [.lit (.bool false)], args := [d] }
  | _ => none }
def FnCompatibleWrongFalsely : Prop := fnCompatibleRow.holds Try.pinned (OpenSpec.ofChange fnCompatibleWrong)

/- THE SECOND FORM. 'bulk': how many values and letters a reading holds, each counted each time it is reached (what is shared counts as often as it is met; a slice's spare places count too). A statement '..UptoSaid' is the law's where the arguments, and the package variables that the reading takes, are together of bulk at most 1048576: NARROWER than '..Said'. Prove '..Said' where nothing that the law and all that it calls make is longer than what came in: it says more and counts as full. Else prove '..UptoSaid'. A law counts once. -/
mutual
def uptoBulk {H : Type} : DataW H → Nat
  | .lit (.string bytes) => bytes.length + 1
  | .lit _ => 1
  | .nil => 1
  | .ptr d => uptoBulk d + 1
  | .slice elems spare => uptoBulkAll elems + uptoBulkAll spare + 1
  | .agg parts => uptoBulkAll parts + 1
  | .iface _ d => uptoBulk d + 1
  | .map entries => uptoBulkEntries entries + 1
  | .held _ => 1
def uptoBulkAll {H : Type} : List (DataW H) → Nat
  | [] => 0
  | d :: r => uptoBulk d + uptoBulkAll r
def uptoBulkEntries {H : Type} : List (Lit × DataW H) → Nat
  | [] => 0
  | x :: r => uptoBulkEntry x + uptoBulkEntries r
def uptoBulkEntry {H : Type} : Lit × DataW H → Nat
  | (.string bytes, d) => bytes.length + uptoBulk d + 1
  | (_, d) => uptoBulk d + 1
 end
def uptoSmall : (H : Type) → List (DataW H) → Bool := fun _ ds => decide (uptoBulkAll ds ≤ 1048576)
def OpenSpec.upto (s : _root_.Go.ChangeSpec) : _root_.Go.OpenSpec := { _root_.Go.OpenSpec.ofChange s with cond := some uptoSmall }

/-- 'laws.FnBrackets', WHERE WHAT IT READS IS OF BULK AT MOST 1048576: true; the input reads as it did. -/
def fnBracketsUptoRow : OpenClaim := { program := "ytdmobfjcbjengaa", sum := "61aa59bac603776939f1ea3540dba0d24b96ebf63822e144a8eff6b37fda546e", func := "loop.example/partialcharts/laws.FnBrackets", spec := "fnBrackets", unfollowed := true, recurses := true, apart := false, narrowed := true }
def FnBracketsUptoSaid : Prop := fnBracketsUptoRow.holds Try.pinned (OpenSpec.upto fnBracketsSpec)

/-- 'laws.FnChart', WHERE WHAT IT READS IS OF BULK AT MOST 1048576: true; the input reads as it did. -/
def fnChartUptoRow : OpenClaim := { program := "ytdmobfjcbjengaa", sum := "61aa59bac603776939f1ea3540dba0d24b96ebf63822e144a8eff6b37fda546e", func := "loop.example/partialcharts/laws.FnChart", spec := "fnChart", unfollowed := true, recurses := true, apart := false, narrowed := true }
def FnChartUptoSaid : Prop := fnChartUptoRow.holds Try.pinned (OpenSpec.upto fnChartSpec)

/-- 'laws.FnTimes', WHERE WHAT IT READS IS OF BULK AT MOST 1048576: true; the input reads as it did. -/
def fnTimesUptoRow : OpenClaim := { program := "ytdmobfjcbjengaa", sum := "61aa59bac603776939f1ea3540dba0d24b96ebf63822e144a8eff6b37fda546e", func := "loop.example/partialcharts/laws.FnTimes", spec := "fnTimes", unfollowed := true, recurses := true, apart := false, narrowed := true }
def FnTimesUptoSaid : Prop := fnTimesUptoRow.holds Try.pinned (OpenSpec.upto fnTimesSpec)

/-- 'laws.FnTurned', WHERE WHAT IT READS IS OF BULK AT MOST 1048576: true; the input reads as it did. -/
def fnTurnedUptoRow : OpenClaim := { program := "ytdmobfjcbjengaa", sum := "61aa59bac603776939f1ea3540dba0d24b96ebf63822e144a8eff6b37fda546e", func := "loop.example/partialcharts/laws.FnTurned", spec := "fnTurned", unfollowed := true, recurses := true, apart := false, narrowed := true }
def FnTurnedUptoSaid : Prop := fnTurnedUptoRow.holds Try.pinned (OpenSpec.upto fnTurnedSpec)

/-- 'laws.FnDomain', WHERE WHAT IT READS IS OF BULK AT MOST 1048576: true; the input reads as it did. -/
def fnDomainUptoRow : OpenClaim := { program := "ytdmobfjcbjengaa", sum := "61aa59bac603776939f1ea3540dba0d24b96ebf63822e144a8eff6b37fda546e", func := "loop.example/partialcharts/laws.FnDomain", spec := "fnDomain", unfollowed := true, recurses := true, apart := false, narrowed := true }
def FnDomainUptoSaid : Prop := fnDomainUptoRow.holds Try.pinned (OpenSpec.upto fnDomainSpec)

/-- 'laws.FnRange', WHERE WHAT IT READS IS OF BULK AT MOST 1048576: true; the input reads as it did. -/
def fnRangeUptoRow : OpenClaim := { program := "ytdmobfjcbjengaa", sum := "61aa59bac603776939f1ea3540dba0d24b96ebf63822e144a8eff6b37fda546e", func := "loop.example/partialcharts/laws.FnRange", spec := "fnRange", unfollowed := true, recurses := true, apart := false, narrowed := true }
def FnRangeUptoSaid : Prop := fnRangeUptoRow.holds Try.pinned (OpenSpec.upto fnRangeSpec)

/-- 'laws.FnSet', WHERE WHAT IT READS IS OF BULK AT MOST 1048576: true; the input reads as it did. -/
def fnSetUptoRow : OpenClaim := { program := "ytdmobfjcbjengaa", sum := "61aa59bac603776939f1ea3540dba0d24b96ebf63822e144a8eff6b37fda546e", func := "loop.example/partialcharts/laws.FnSet", spec := "fnSet", unfollowed := true, recurses := true, apart := false, narrowed := true }
def FnSetUptoSaid : Prop := fnSetUptoRow.holds Try.pinned (OpenSpec.upto fnSetSpec)

/-- 'laws.FnIdem', WHERE WHAT IT READS IS OF BULK AT MOST 1048576: true; the input reads as it did. -/
def fnIdemUptoRow : OpenClaim := { program := "ytdmobfjcbjengaa", sum := "61aa59bac603776939f1ea3540dba0d24b96ebf63822e144a8eff6b37fda546e", func := "loop.example/partialcharts/laws.FnIdem", spec := "fnIdem", unfollowed := true, recurses := true, apart := false, narrowed := true }
def FnIdemUptoSaid : Prop := fnIdemUptoRow.holds Try.pinned (OpenSpec.upto fnIdemSpec)

/-- 'laws.FnOwn', WHERE WHAT IT READS IS OF BULK AT MOST 1048576: true; the input reads as it did. -/
def fnOwnUptoRow : OpenClaim := { program := "ytdmobfjcbjengaa", sum := "61aa59bac603776939f1ea3540dba0d24b96ebf63822e144a8eff6b37fda546e", func := "loop.example/partialcharts/laws.FnOwn", spec := "fnOwn", unfollowed := true, recurses := true, apart := false, narrowed := true }
def FnOwnUptoSaid : Prop := fnOwnUptoRow.holds Try.pinned (OpenSpec.upto fnOwnSpec)

/-- 'laws.FnBelow', WHERE WHAT IT READS IS OF BULK AT MOST 1048576: true; the input reads as it did. -/
def fnBelowUptoRow : OpenClaim := { program := "ytdmobfjcbjengaa", sum := "61aa59bac603776939f1ea3540dba0d24b96ebf63822e144a8eff6b37fda546e", func := "loop.example/partialcharts/laws.FnBelow", spec := "fnBelow", unfollowed := true, recurses := true, apart := false, narrowed := true }
def FnBelowUptoSaid : Prop := fnBelowUptoRow.holds Try.pinned (OpenSpec.upto fnBelowSpec)

/-- 'laws.FnMeet', WHERE WHAT IT READS IS OF BULK AT MOST 1048576: true; the input reads as it did. -/
def fnMeetUptoRow : OpenClaim := { program := "ytdmobfjcbjengaa", sum := "61aa59bac603776939f1ea3540dba0d24b96ebf63822e144a8eff6b37fda546e", func := "loop.example/partialcharts/laws.FnMeet", spec := "fnMeet", unfollowed := true, recurses := true, apart := false, narrowed := true }
def FnMeetUptoSaid : Prop := fnMeetUptoRow.holds Try.pinned (OpenSpec.upto fnMeetSpec)

/-- 'laws.FnCompatible', WHERE WHAT IT READS IS OF BULK AT MOST 1048576: true; the input reads as it did. -/
def fnCompatibleUptoRow : OpenClaim := { program := "ytdmobfjcbjengaa", sum := "61aa59bac603776939f1ea3540dba0d24b96ebf63822e144a8eff6b37fda546e", func := "loop.example/partialcharts/laws.FnCompatible", spec := "fnCompatible", unfollowed := true, recurses := true, apart := false, narrowed := true }
def FnCompatibleUptoSaid : Prop := fnCompatibleUptoRow.holds Try.pinned (OpenSpec.upto fnCompatibleSpec)

end Rows
end Go.Proofs.Ytdmobfjcbjengaa
