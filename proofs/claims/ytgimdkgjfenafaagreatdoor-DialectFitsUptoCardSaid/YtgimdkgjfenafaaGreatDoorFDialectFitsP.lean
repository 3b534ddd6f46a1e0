import Derived.Test.YtgimdkgjfenafaaGreatDoorRows
import Derived.JoinedCond
namespace Go.Proofs.YtgimdkgjfenafaaGreatDoor.onDialectFitsP
theorem k10 : (Rows.dialectFitsUptoRow.inPlace == Tryz.pinned.checked.prog.inPlace 7) = true := by kernel_rfl
theorem k11 : (Rows.dialectFitsUptoRow.unfollowed == Tryz.pinned.checked.prog.unfollowed 7) = true := by kernel_rfl
theorem k12 : (Rows.dialectFitsUptoRow.recurses == Tryz.pinned.checked.prog.recurses 7) = true := by kernel_rfl
end Go.Proofs.YtgimdkgjfenafaaGreatDoor.onDialectFitsP
