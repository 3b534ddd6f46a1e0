/-
  Texts of mine in one file: BE.
-/
import Derived.Test.YtiofnjnaleglgaaGreatDoorG16
import Derived.Test.YtiofnjnaleglgaaGreatDoorG10
import Derived.Deep.RegionWith
import Derived.Deep.Cut
import Derived.Deep.DeepCutAuto
import Derived.BigQuiet
/-
  'slices.Collect' and 'Shape' by contracts.
-/
namespace Go.Proofs.YtiofnjnaleglgaaGreatDoor
open Go.RowKit

section
variable {s el : ByteArray} {k b e0 e1 e2 : Int} {r : Nat}
end
end Go.Proofs.YtiofnjnaleglgaaGreatDoor

