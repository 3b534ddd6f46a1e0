import Derived.Test.YtgimdkgjfenafaaGreatDoorRows
import Derived.JoinedCond
namespace Go.Proofs.YtgimdkgjfenafaaGreatDoor.onDialectFindsQ
theorem k13 : (Rows.dialectFindsUptoRow.named == Tryz.pinned.checked.prog.varsNamed 4) = true := by kernel_rfl
theorem k27 : (Rows.dialectFindsUptoRow.lifted == Tryz.pinned.checked.prog.liftsFinal) = true := by kernel_rfl
theorem k28 : (Tryz.pinned.checked.prog.make == some Rows.dialectFindsUptoRow.make) = true := by kernel_rfl
end Go.Proofs.YtgimdkgjfenafaaGreatDoor.onDialectFindsQ
