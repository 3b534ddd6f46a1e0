import Derived.Test.YtgimdkgjfenafaaGreatDoorRows
import Derived.JoinedCond
namespace Go.Proofs.YtgimdkgjfenafaaGreatDoor.onDialectFitsQ
theorem k13 : (Rows.dialectFitsUptoRow.named == Tryz.pinned.checked.prog.varsNamed 7) = true := by kernel_rfl
theorem k27 : (Rows.dialectFitsUptoRow.lifted == Tryz.pinned.checked.prog.liftsFinal) = true := by kernel_rfl
theorem k28 : (Tryz.pinned.checked.prog.make == some Rows.dialectFitsUptoRow.make) = true := by kernel_rfl
end Go.Proofs.YtgimdkgjfenafaaGreatDoor.onDialectFitsQ
