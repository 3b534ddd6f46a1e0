import Derived.Test.YtgimdkgjfenafaaGreatDoorG47
import Derived.Test.YtgimdkgjfenafaaGreatDoorG48
import Derived.Test.YtgimdkgjfenafaaGreatDoorG49
import Derived.Test.YtgimdkgjfenafaaGreatDoorG50
namespace Go.Proofs.YtgimdkgjfenafaaGreatDoor.onDialectHasR
theorem k1 : (Rows.dialectHasUptoRow.wf (OpenSpec.ofChange (Rows.OpenSpec.upto Rows.dialectHasSpec).bare)) = true := by kernel_rfl
theorem k4 : (Tryz.f8.params.all (Tryz.pinned.checked.prog.readableRec ·)) = true := by kernel_rfl
theorem k5 : (namedTie Tryz.pinned.checked.prog Rows.dialectHasUptoRow.named (Rows.OpenSpec.upto Rows.dialectHasSpec).bare.vars) = true := by kernel_rfl
theorem k6 : (Rows.dialectHasUptoRow.stops == []) = true := by kernel_rfl
theorem k8 : (Rows.dialectHasUptoRow.knobs == []) = true := by kernel_rfl
theorem k14 : (Rows.dialectHasUptoRow.maps == (Tryz.f8.params.toList ++ (Rows.OpenSpec.upto Rows.dialectHasSpec).bare.plain.varTypes Tryz.pinned.checked.prog).any (Tryz.pinned.checked.prog.mapsRec ·)) = true := by kernel_rfl
theorem k15 : (Rows.dialectHasUptoRow.ifaces == (Tryz.f8.params.toList ++ (Rows.OpenSpec.upto Rows.dialectHasSpec).bare.plain.varTypes Tryz.pinned.checked.prog).any (Tryz.pinned.checked.prog.ifacesRec ·)) = true := by kernel_rfl
theorem k16 : (Rows.dialectHasUptoRow.mapsOut == Tryz.pinned.checked.prog.mapsAmong Tryz.f8.resultTypes.toList) = true := by kernel_rfl
theorem k17 : (Rows.dialectHasUptoRow.loops == (Tryz.f8.params.toList ++ (Rows.OpenSpec.upto Rows.dialectHasSpec).bare.plain.varTypes Tryz.pinned.checked.prog).any (Tryz.pinned.checked.prog.loopsFrom ·)) = true := by kernel_rfl
theorem k18 : (Rows.dialectHasUptoRow.wideKeys == (Tryz.f8.params.toList ++ (Rows.OpenSpec.upto Rows.dialectHasSpec).bare.plain.varTypes Tryz.pinned.checked.prog ++ Tryz.f8.resultTypes.toList).any (Tryz.pinned.checked.prog.wideKeysFrom ·)) = true := by kernel_rfl
theorem k19 : ((Rows.OpenSpec.upto Rows.dialectHasSpec).bare.vars.all (Tryz.pinned.checked.prog.varReadable ·)) = true := by kernel_rfl
theorem k20 : (Tryz.f8.resultTypes.all (fun t => Tryz.pinned.checked.prog.readableRec t && decide (t < Tryz.pinned.checked.prog.types.size))) = true := by kernel_rfl
theorem k21 : (Rows.dialectHasUptoRow.ifacesOut == Tryz.f8.resultTypes.toList.any (Tryz.pinned.checked.prog.ifacesRec ·)) = true := by kernel_rfl
theorem k22 : (Rows.dialectHasUptoRow.loopsOut == Tryz.f8.resultTypes.toList.any (Tryz.pinned.checked.prog.loopsFrom ·)) = true := by kernel_rfl
theorem k23 : (Rows.dialectHasUptoRow.plainKeys == Tryz.pinned.checked.prog.plainKeys) = true := by kernel_rfl
theorem k24 : (Rows.dialectHasUptoRow.shortTexts.isNone) = true := by kernel_rfl
theorem k29 : (Rows.dialectHasUptoRow.kinds == (if Rows.dialectHasUptoRow.domain.isEmpty then [] else Tryz.f8.params.toList.map fun t => match Tryz.pinned.checked.prog.underlying t with | some (.int k) => some k | _ => none)) = true := by kernel_rfl
theorem k30 : (Rows.dialectHasUptoRow.pinned == Rows.dialectHasUptoRow.pinnedBy) = true := by kernel_rfl
theorem k31 : (Rows.dialectHasUptoRow.veiled == (Tryz.f8.params.toList ++ (Rows.OpenSpec.upto Rows.dialectHasSpec).bare.plain.varTypes Tryz.pinned.checked.prog ++ Tryz.f8.resultTypes.toList).any (Tryz.pinned.checked.prog.veiledRec ·)) = true := by kernel_rfl
theorem k32 : (Rows.dialectHasUptoRow.veiledFits Tryz.pinned.checked.prog Tryz.f8.params.toList (Tryz.f8.params.toList ++ (Rows.OpenSpec.upto Rows.dialectHasSpec).bare.plain.varTypes Tryz.pinned.checked.prog ++ Tryz.f8.resultTypes.toList)) = true := by kernel_rfl
set_option maxRecDepth 100000 in
theorem closed : joinedFacts Tryz.pinned.checked.prog 8 Tryz.f8 (Rows.OpenSpec.upto Rows.dialectHasSpec).bare Rows.dialectHasUptoRow = true :=
 DxP1.joined_of k1 DxP1.p2 DxP1.p3 k4 k5 k6 DxP1.p7 k8 DxP1.p9 onDialectHasP.k10 onDialectHasP.k11 onDialectHasP.k12 onDialectHasQ.k13 k14 k15 k16 k17 k18 k19 k20 k21 k22 k23 k24 DxP2.p25 DxP2.p26 onDialectHasQ.k27 onDialectHasQ.k28 k29 k30 k31 k32
theorem named : Tryz.pinned.checked.prog.funcNamed Rows.dialectHasUptoRow.func = some 8 := by kernel_rfl
set_option maxRecDepth 100000 in
theorem inst : Tryz.f8.isInstance Tryz.pinned.checked.prog Rows.dialectHasUptoRow.origin Rows.dialectHasUptoRow.targs := of_decide_eq_true (by kernel_rfl)
set_option maxRecDepth 100000 in
theorem wrap : Tryz.f8.isWrapper Tryz.pinned.checked.prog Rows.dialectHasUptoRow.wrapper Rows.dialectHasUptoRow.mainSum := by
 unfold Func.isWrapper; first | (rw [if_pos (by decide +kernel)]; kernel_rfl) | (rw [if_neg (by decide +kernel)]; exact ⟨rfl, rfl⟩)
end Go.Proofs.YtgimdkgjfenafaaGreatDoor.onDialectHasR
