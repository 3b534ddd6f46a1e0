import Derived.Test.YtgimdkgjfenafaaGreatDoorRows
import Derived.JoinedCond
namespace Go.Proofs.YtgimdkgjfenafaaGreatDoor.onDialectChecksP
theorem k10 : (Rows.dialectChecksUptoRow.inPlace == Tryz.pinned.checked.prog.inPlace 3) = true := by kernel_rfl
theorem k11 : (Rows.dialectChecksUptoRow.unfollowed == Tryz.pinned.checked.prog.unfollowed 3) = true := by kernel_rfl
theorem k12 : (Rows.dialectChecksUptoRow.recurses == Tryz.pinned.checked.prog.recurses 3) = true := by kernel_rfl
end Go.Proofs.YtgimdkgjfenafaaGreatDoor.onDialectChecksP
