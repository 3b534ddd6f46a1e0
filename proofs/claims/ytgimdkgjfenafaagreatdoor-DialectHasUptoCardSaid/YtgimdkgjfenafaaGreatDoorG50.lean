import Derived.Test.YtgimdkgjfenafaaGreatDoorRows
import Derived.JoinedCond
namespace Go.Proofs.YtgimdkgjfenafaaGreatDoor.onDialectHasQ
theorem k13 : (Rows.dialectHasUptoRow.named == Tryz.pinned.checked.prog.varsNamed 8) = true := by kernel_rfl
theorem k27 : (Rows.dialectHasUptoRow.lifted == Tryz.pinned.checked.prog.liftsFinal) = true := by kernel_rfl
theorem k28 : (Tryz.pinned.checked.prog.make == some Rows.dialectHasUptoRow.make) = true := by kernel_rfl
end Go.Proofs.YtgimdkgjfenafaaGreatDoor.onDialectHasQ
