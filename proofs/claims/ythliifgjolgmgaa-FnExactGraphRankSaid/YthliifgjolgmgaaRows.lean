/-
  No cell of these rows narrows 'for every input' (looked for: loops, veiled, ifaces, maps, wideKeys, modest, calm, conditions, laid).
  DERIVED. THE GIVEN ROWS OF THIS SEAT. 5 by the template 'for every input the law returns true; each argument reads behind the call as it read before'; 0 by the template 'total and deterministic' (their statements: YthliifgjolgmgaaTotals.lean).
  GIVEN WITH THE SEED: the statements are not yours to turn. If you find one false, say at which input.
  Laid BY PROGRAM, IN A SANDBOX (cutbox-rows.mjs): the forced cells as the released guide's own fill.sh prints them over the translation 83906874f1c2ee85… (all of the seat's roots in one cut). By AI agents, Wed Nov 11 2026. No macro, syntax, notation, axiom, sorry.
-/
import Derived.Test.YthliifgjolgmgaaChecked
import GoSem.Claim
import GoSem.ClaimJoined
import GoSem.ClaimMapViews
import Derived.JoinedTies
import Derived.KernelRfl
namespace Go.Proofs.Ythliifgjolgmgaa
/- THE CELL 'sum', in the pinned program and in every row, IS THE sha256 OF THE DUMP (.gsa) THAT YthliifgjolgmgaaProg.lean LOADS. Nothing in Lean hashes anything: it is a label: what it is worth is what the hold of that sum in a sandbox is worth. -/
noncomputable def Try.pinned : Pinned := { name := "ythliifgjolgmgaa", sum := "83906874f1c2ee857148a4e459caf32dab00dcacc193563b56a176dbd1f51907", checked := Try.checked }
namespace Rows
def none {H : Type} : Left H := { results := [], args := [] }

/-- 'laws.FnExactGraphIn': WHATEVER THE INPUT: true; the input reads as it did. -/
def fnExactGraphInSpec : ChangeSpec := { name := "fnExactGraphIn", fn := fun _ => fun
  | [d] => { results := [.lit (.bool true)], args := [d] }
  | _ => none }
def fnExactGraphInRow : OpenClaim := { program := "ythliifgjolgmgaa", sum := "83906874f1c2ee857148a4e459caf32dab00dcacc193563b56a176dbd1f51907", func := "loop.example/partialcharts/laws.FnExactGraphIn", spec := "fnExactGraphIn", unfollowed := true, recurses := true, apart := false }
def FnExactGraphInSaid : Prop := fnExactGraphInRow.holds Try.pinned (OpenSpec.ofChange fnExactGraphInSpec)

/-- ITS FALSE NEIGHBOUR: 'it returns false'. Refute it at one input. -/
def fnExactGraphInWrong : ChangeSpec := { name := "fnExactGraphIn", fn := fun _ => fun
  | [d] => { results := [.lit (.bool false)], args := [d] }
  | _ => none }
def FnExactGraphInWrongFalsely : Prop := fnExactGraphInRow.holds Try.pinned (OpenSpec.ofChange fnExactGraphInWrong)

/-- 'laws.FnExactGraphRank': WHATEVER THE INPUT: true; the input reads as it did. -/
def fnExactGraphRankSpec : ChangeSpec := { name := "fnExactGraphRank", fn := fun _ => fun
  | [d] => { results := [.lit (.bool true)], args := [d] }
  | _ => none }
def fnExactGraphRankRow : OpenClaim := { program := "ythliifgjolgmgaa", sum := "83906874f1c2ee857148a4e459caf32dab00dcacc193563b56a176dbd1f51907", func := "loop.example/partialcharts/laws.FnExactGraphRank", spec := "fnExactGraphRank", unfollowed := true, recurses := true, apart := false }
def FnExactGraphRankSaid : Prop := fnExactGraphRankRow.holds Try.pinned (OpenSpec.ofChange fnExactGraphRankSpec)

/-- ITS FALSE NEIGHBOUR: 'it returns false'. Refute it at one input. -/
def fnExactGraphRankWrong : ChangeSpec := { name := "fnExactGraphRank", fn := fun _ => fun
  | [d] => { results := [.lit (.bool false)], args := [d] }
  | _ => none }
def FnExactGraphRankWrongFalsely : Prop := fnExactGraphRankRow.holds Try.pinned (OpenSpec.ofChange fnExactGraphRankWrong)

/-- 'laws.FnExactGraphIndex': WHATEVER THE INPUT: true; the input reads as it did. -/
def fnExactGraphIndexSpec : ChangeSpec := { name := "fnExactGraphIndex", fn := fun _ => fun
  | [d] => { results := [.lit (.bool true)], args := [d] }
  | _ => none }
def fnExactGraphIndexRow : OpenClaim := { program := "ythliifgjolgmgaa", sum := "83906874f1c2ee857148a4e459caf32dab00dcacc193563b56a176dbd1f51907", func := "loop.example/partialcharts/laws.FnExactGraphIndex", spec := "fnExactGraphIndex", unfollowed := true, recurses := true, apart := false }
def FnExactGraphIndexSaid : Prop := fnExactGraphIndexRow.holds Try.pinned (OpenSpec.ofChange fnExactGraphIndexSpec)

/-- ITS FALSE NEIGHBOUR: 'it returns false'. Refute it at one input. -/
def fnExactGraphIndexWrong : ChangeSpec := { name := "fnExactGraphIndex", fn := fun _ => fun
  | [d] => { results := [.lit (.bool false)], args := [d] }
  | _ => none }
def FnExactGraphIndexWrongFalsely : Prop := fnExactGraphIndexRow.holds Try.pinned (OpenSpec.ofChange fnExactGraphIndexWrong)

/-- 'laws.FnExactGraphMeet': WHATEVER THE INPUT: true; the input reads as it did. -/
def fnExactGraphMeetSpec : ChangeSpec := { name := "fnExactGraphMeet", fn := fun _ => fun
  | [d1, d2] => { results := [.lit (.bool true)], args := [d1, d2] }
  | _ => none }
def fnExactGraphMeetRow : OpenClaim := { program := "ythliifgjolgmgaa", sum := "83906874f1c2ee857148a4e459caf32dab00dcacc193563b56a176dbd1f51907", func := "loop.example/partialcharts/laws.FnExactGraphMeet", spec := "fnExactGraphMeet", unfollowed := true, recurses := true, apart := false }
def FnExactGraphMeetSaid : Prop := fnExactGraphMeetRow.holds Try.pinned (OpenSpec.ofChange fnExactGraphMeetSpec)

/-- ITS FALSE NEIGHBOUR: 'it returns false'. Refute it at one input. -/
def fnExactGraphMeetWrong : ChangeSpec := { name := "fnExactGraphMeet", fn := fun _ => fun
  | [d1, d2] => { results := [.lit (.bool false)], args := [d1, d2] }
  | _ => none }
def FnExactGraphMeetWrongFalsely : Prop := fnExactGraphMeetRow.holds Try.pinned (OpenSpec.ofChange fnExactGraphMeetWrong)

/-- 'laws.FnExactGraphSame': WHATEVER THE INPUT: true; the input reads as it did. -/
def fnExactGraphSameSpec : ChangeSpec := { name := "fnExactGraphSame", fn := fun _ => fun
  | [d1, d2] => { results := [.lit (.bool true)], args := [d1, d2] }
  | _ => none }
def fnExactGraphSameRow : OpenClaim := { program := "ythliifgjolgmgaa", sum := "83906874f1c2ee857148a4e459caf32dab00dcacc193563b56a176dbd1f51907", func := "loop.example/partialcharts/laws.FnExactGraphSame", spec := "fnExactGraphSame", unfollowed := true, recurses := true, apart := false }
def FnExactGraphSameSaid : Prop := fnExactGraphSameRow.holds Try.pinned (OpenSpec.ofChange fnExactGraphSameSpec)

/-- ITS FALSE NEIGHBOUR: 'it returns false'. Refute it at one input. -/
def fnExactGraphSameWrong : ChangeSpec := { name := "fnExactGraphSame", fn := fun _ => fun
  | [d1, d2] => { results := [.lit (.bool false)], args := [d1, d2] }
  | _ => none }
def FnExactGraphSameWrongFalsely : Prop := fnExactGraphSameRow.holds Try.pinned (OpenSpec.ofChange fnExactGraphSameWrong)

/- THE SECOND FORM. 'bulk': how many values and letters a reading holds, each counted each time it is reached (what is shared counts as often as it is met; a slice's spare places count too). A statement '..UptoSaid' is the law's where the arguments, and the package variables that the reading takes, are together of bulk at most 1048576: NARROWER than '..Said'. Prove '..Said' where nothing that the law and all that it calls make is longer than what came in: it says more and counts as full. Else prove '..UptoSaid'. A law counts once. -/
mutual
def uptoBulk {H : Type} : DataW H → Nat
  | .lit (.string bytes) => bytes.length + 1
  | .lit _ => 1
  | .nil => 1
  | .ptr d => uptoBulk d + 1
  | .slice elems spare => uptoBulkAll elems + uptoBulkAll spare + 1
  | .agg parts => uptoBulkAll parts + 1
  | .iface _ d => uptoBulk d + 1
  | .map entries => uptoBulkEntries entries + 1
  | .held _ => 1
def uptoBulkAll {H : Type} : List (DataW H) → Nat
  | [] => 0
  | d :: r => uptoBulk d + uptoBulkAll r
def uptoBulkEntries {H : Type} : List (Lit × DataW H) → Nat
  | [] => 0
  | x :: r => uptoBulkEntry x + uptoBulkEntries r
def uptoBulkEntry {H : Type} : Lit × DataW H → Nat
  | (.string bytes, d) => bytes.length + uptoBulk d + 1
  | (_, d) => uptoBulk d + 1
 end
def uptoSmall : (H : Type) → List (DataW H) → Bool := fun _ ds => decide (uptoBulkAll ds ≤ 1048576)
def OpenSpec.upto (s : _root_.Go.ChangeSpec) : _root_.Go.OpenSpec := { _root_.Go.OpenSpec.ofChange s with cond := some uptoSmall }

/-- 'laws.FnExactGraphIn', WHERE WHAT IT READS IS OF BULK AT MOST 1048576: true; the input reads as it did. -/
def fnExactGraphInUptoRow : OpenClaim := { program := "ythliifgjolgmgaa", sum := "83906874f1c2ee857148a4e459caf32dab00dcacc193563b56a176dbd1f51907", func := "loop.example/partialcharts/laws.FnExactGraphIn", spec := "fnExactGraphIn", unfollowed := true, recurses := true, apart := false, narrowed := true }
def FnExactGraphInUptoSaid : Prop := fnExactGraphInUptoRow.holds Try.pinned (OpenSpec.upto fnExactGraphInSpec)

/-- 'laws.FnExactGraphRank', WHERE WHAT IT READS IS OF BULK AT MOST 1048576: true; the input reads as it did. -/
def fnExactGraphRankUptoRow : OpenClaim := { program := "ythliifgjolgmgaa", sum := "83906874f1c2ee857148a4e459caf32dab00dcacc193563b56a176dbd1f51907", func := "loop.example/partialcharts/laws.FnExactGraphRank", spec := "fnExactGraphRank", unfollowed := true, recurses := true, apart := false, narrowed := true }
def FnExactGraphRankUptoSaid : Prop := fnExactGraphRankUptoRow.holds Try.pinned (OpenSpec.upto fnExactGraphRankSpec)

/-- 'laws.FnExactGraphIndex', WHERE WHAT IT READS IS OF BULK AT MOST 1048576: true; the input reads as it did. -/
def fnExactGraphIndexUptoRow : OpenClaim := { program := "ythliifgjolgmgaa", sum := "83906874f1c2ee857148a4e459caf32dab00dcacc193563b56a176dbd1f51907", func := "loop.example/partialcharts/laws.FnExactGraphIndex", spec := "fnExactGraphIndex", unfollowed := true, recurses := true, apart := false, narrowed := true }
def FnExactGraphIndexUptoSaid : Prop := fnExactGraphIndexUptoRow.holds Try.pinned (OpenSpec.upto fnExactGraphIndexSpec)

/-- 'laws.FnExactGraphMeet', WHERE WHAT IT READS IS OF BULK AT MOST 1048576: true; the input reads as it did. -/
def fnExactGraphMeetUptoRow : OpenClaim := { program := "ythliifgjolgmgaa", sum := "83906874f1c2ee857148a4e459caf32dab00dcacc193563b56a176dbd1f51907", func := "loop.example/partialcharts/laws.FnExactGraphMeet", spec := "fnExactGraphMeet", unfollowed := true, recurses := true, apart := false, narrowed := true }
def FnExactGraphMeetUptoSaid : Prop := fnExactGraphMeetUptoRow.holds Try.pinned (OpenSpec.upto fnExactGraphMeetSpec)

/-- 'laws.FnExactGraphSame', WHERE WHAT IT READS IS OF BULK AT MOST 1048576: true; the input reads as it did. -/
def fnExactGraphSameUptoRow : OpenClaim := { program := "ythliifgjolgmgaa", sum := "83906874f1c2ee857148a4e459caf32dab00dcacc193563b56a176dbd1f51907", func := "loop.example/partialcharts/laws.FnExactGraphSame", spec := "fnExactGraphSame", unfollowed := true, recurses := true, apart := false, narrowed := true }
def FnExactGraphSameUptoSaid : Prop := fnExactGraphSameUptoRow.holds Try.pinned (OpenSpec.upto fnExactGraphSameSpec)

end Rows
end Go.Proofs.Ythliifgjolgmgaa
