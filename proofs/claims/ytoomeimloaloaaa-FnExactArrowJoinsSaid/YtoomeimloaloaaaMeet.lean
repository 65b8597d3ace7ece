/-
  (impl.chart).meet.
-/
import Derived.Test.YtoomeimloaloaaaTurned
namespace Go.Proofs.Ytoomeimloaloaaa
set_option maxRecDepth 100000
open Go.RowKit Go.Shelf
attribute [local go_sem] Oper.semAt_some


end Go.Proofs.Ytoomeimloaloaaa
