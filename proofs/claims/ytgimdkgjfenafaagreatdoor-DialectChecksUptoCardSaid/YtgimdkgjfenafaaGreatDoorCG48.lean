import Derived.Test.YtgimdkgjfenafaaGreatDoorRows
import Derived.JoinedCond
namespace Go.Proofs.YtgimdkgjfenafaaGreatDoor.DxP2
theorem p25 : Tryz.pinned.checked.prog.stopsHeard = true := by kernel_rfl
theorem p26 : Tryz.pinned.checked.prog.mayEnter = true := by kernel_rfl
end Go.Proofs.YtgimdkgjfenafaaGreatDoor.DxP2
