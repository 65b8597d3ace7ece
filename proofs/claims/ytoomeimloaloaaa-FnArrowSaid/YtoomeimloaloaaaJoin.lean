/-
  (impl.chart).join, (impl.chart).idem, (impl.chart).domain, impl.identity, impl.isSet.
-/
import Derived.Test.YtoomeimloaloaaaCut
import Derived.RegionTactic
import Derived.Deep.QuietTactic
import Derived.BigQuiet
namespace Go.Proofs.Ytoomeimloaloaaa
set_option maxRecDepth 100000
open Go.RowKit Go.Shelf
attribute [local go_sem] Oper.semAt_some


end Go.Proofs.Ytoomeimloaloaaa
