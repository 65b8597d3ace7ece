/-
  What the joined facts of every row of this seat ask of the program's own words.
-/
import Derived.Test.YtmknjifmmmnjjaaGreatDoorChecked
import Derived.WalkKit
import Derived.JoinedOf
namespace Go.Proofs.YtmknjifmmmnjjaaGreatDoor
set_option maxRecDepth 100000
theorem jf_may : Tryz.prog.mayEnter = true := by kernel_rfl
theorem jf_lift : Tryz.prog.liftsFinal = false := by kernel_rfl
theorem jf_make : Tryz.prog.make = some .cut := by kernel_rfl
theorem jf_main : Tryz.prog.mainIs = some (true, ( "77c222406daaab5ca4452883f23dbb83e7f9c038892078ae1db43077ba47699e" : String).toList) := by kernel_rfl
end Go.Proofs.YtmknjifmmmnjjaaGreatDoor
