import Derived.Test.YtgimdkgjfenafaaGreatDoorG37
import Derived.Test.YtgimdkgjfenafaaGreatDoorG14
import Derived.Test.YtgimdkgjfenafaaGreatDoorG07
import Derived.SliceStrings
import Derived.ChangeSlices
namespace Go.Proofs.YtgimdkgjfenafaaGreatDoor
open Go.ChangeShapes Go.WideShapes Go.ChangeAt Go.RowKit
theorem cells_int1 : Tryz.prog.cellsOf 3 = 1 := by kernel_rfl
theorem short {H : Type} {s : ByteArray} (hk : Rows.uptoSmall H [.lit (.string s.data.toList)] = true) : s.size ≤ 1048576 := by
 have h : Rows.uptoBulkAll [DataW.lit (H := H) (.string s.data.toList)] ≤ 1048576 := of_decide_eq_true hk
 simp only [Rows.uptoBulkAll, Rows.uptoBulk] at h
 rw [size_eq]
 omega
end Go.Proofs.YtgimdkgjfenafaaGreatDoor
