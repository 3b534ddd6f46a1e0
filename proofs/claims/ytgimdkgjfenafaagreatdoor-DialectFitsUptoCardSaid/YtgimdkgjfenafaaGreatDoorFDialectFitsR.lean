import Derived.Test.YtgimdkgjfenafaaGreatDoorG47
import Derived.Test.YtgimdkgjfenafaaGreatDoorG48
import Derived.Test.YtgimdkgjfenafaaGreatDoorFDialectFitsP
import Derived.Test.YtgimdkgjfenafaaGreatDoorFDialectFitsQ
namespace Go.Proofs.YtgimdkgjfenafaaGreatDoor.onDialectFitsR
theorem k1 : (Rows.dialectFitsUptoRow.wf (OpenSpec.ofChange (Rows.OpenSpec.upto Rows.dialectFitsSpec).bare)) = true := by kernel_rfl
theorem k4 : (Tryz.f7.params.all (Tryz.pinned.checked.prog.readableRec ·)) = true := by kernel_rfl
theorem k5 : (namedTie Tryz.pinned.checked.prog Rows.dialectFitsUptoRow.named (Rows.OpenSpec.upto Rows.dialectFitsSpec).bare.vars) = true := by kernel_rfl
theorem k6 : (Rows.dialectFitsUptoRow.stops == []) = true := by kernel_rfl
theorem k8 : (Rows.dialectFitsUptoRow.knobs == []) = true := by kernel_rfl
theorem k14 : (Rows.dialectFitsUptoRow.maps == (Tryz.f7.params.toList ++ (Rows.OpenSpec.upto Rows.dialectFitsSpec).bare.plain.varTypes Tryz.pinned.checked.prog).any (Tryz.pinned.checked.prog.mapsRec ·)) = true := by kernel_rfl
theorem k15 : (Rows.dialectFitsUptoRow.ifaces == (Tryz.f7.params.toList ++ (Rows.OpenSpec.upto Rows.dialectFitsSpec).bare.plain.varTypes Tryz.pinned.checked.prog).any (Tryz.pinned.checked.prog.ifacesRec ·)) = true := by kernel_rfl
theorem k16 : (Rows.dialectFitsUptoRow.mapsOut == Tryz.pinned.checked.prog.mapsAmong Tryz.f7.resultTypes.toList) = true := by kernel_rfl
theorem k17 : (Rows.dialectFitsUptoRow.loops == (Tryz.f7.params.toList ++ (Rows.OpenSpec.upto Rows.dialectFitsSpec).bare.plain.varTypes Tryz.pinned.checked.prog).any (Tryz.pinned.checked.prog.loopsFrom ·)) = true := by kernel_rfl
theorem k18 : (Rows.dialectFitsUptoRow.wideKeys == (Tryz.f7.params.toList ++ (Rows.OpenSpec.upto Rows.dialectFitsSpec).bare.plain.varTypes Tryz.pinned.checked.prog ++ Tryz.f7.resultTypes.toList).any (Tryz.pinned.checked.prog.wideKeysFrom ·)) = true := by kernel_rfl
theorem k19 : ((Rows.OpenSpec.upto Rows.dialectFitsSpec).bare.vars.all (Tryz.pinned.checked.prog.varReadable ·)) = true := by kernel_rfl
theorem k20 : (Tryz.f7.resultTypes.all (fun t => Tryz.pinned.checked.prog.readableRec t && decide (t < Tryz.pinned.checked.prog.types.size))) = true := by kernel_rfl
theorem k21 : (Rows.dialectFitsUptoRow.ifacesOut == Tryz.f7.resultTypes.toList.any (Tryz.pinned.checked.prog.ifacesRec ·)) = true := by kernel_rfl
theorem k22 : (Rows.dialectFitsUptoRow.loopsOut == Tryz.f7.resultTypes.toList.any (Tryz.pinned.checked.prog.loopsFrom ·)) = true := by kernel_rfl
theorem k23 : (Rows.dialectFitsUptoRow.plainKeys == Tryz.pinned.checked.prog.plainKeys) = true := by kernel_rfl
theorem k24 : (Rows.dialectFitsUptoRow.shortTexts.isNone) = true := by kernel_rfl
theorem k29 : (Rows.dialectFitsUptoRow.kinds == (if Rows.dialectFitsUptoRow.domain.isEmpty then [] else Tryz.f7.params.toList.map fun t => match Tryz.pinned.checked.prog.underlying t with | some (.int k) => some k | _ => none)) = true := by kernel_rfl
theorem k30 : (Rows.dialectFitsUptoRow.pinned == Rows.dialectFitsUptoRow.pinnedBy) = true := by kernel_rfl
theorem k31 : (Rows.dialectFitsUptoRow.veiled == (Tryz.f7.params.toList ++ (Rows.OpenSpec.upto Rows.dialectFitsSpec).bare.plain.varTypes Tryz.pinned.checked.prog ++ Tryz.f7.resultTypes.toList).any (Tryz.pinned.checked.prog.veiledRec ·)) = true := by kernel_rfl
theorem k32 : (Rows.dialectFitsUptoRow.veiledFits Tryz.pinned.checked.prog Tryz.f7.params.toList (Tryz.f7.params.toList ++ (Rows.OpenSpec.upto Rows.dialectFitsSpec).bare.plain.varTypes Tryz.pinned.checked.prog ++ Tryz.f7.resultTypes.toList)) = true := by kernel_rfl
set_option maxRecDepth 100000 in
theorem closed : joinedFacts Tryz.pinned.checked.prog 7 Tryz.f7 (Rows.OpenSpec.upto Rows.dialectFitsSpec).bare Rows.dialectFitsUptoRow = true :=
 DxP1.joined_of k1 DxP1.p2 DxP1.p3 k4 k5 k6 DxP1.p7 k8 DxP1.p9 onDialectFitsP.k10 onDialectFitsP.k11 onDialectFitsP.k12 onDialectFitsQ.k13 k14 k15 k16 k17 k18 k19 k20 k21 k22 k23 k24 DxP2.p25 DxP2.p26 onDialectFitsQ.k27 onDialectFitsQ.k28 k29 k30 k31 k32
theorem named : Tryz.pinned.checked.prog.funcNamed Rows.dialectFitsUptoRow.func = some 7 := by kernel_rfl
set_option maxRecDepth 100000 in
theorem inst : Tryz.f7.isInstance Tryz.pinned.checked.prog Rows.dialectFitsUptoRow.origin Rows.dialectFitsUptoRow.targs := of_decide_eq_true (by kernel_rfl)
set_option maxRecDepth 100000 in
theorem wrap : Tryz.f7.isWrapper Tryz.pinned.checked.prog Rows.dialectFitsUptoRow.wrapper Rows.dialectFitsUptoRow.mainSum := by
 unfold Func.isWrapper; first | (rw [if_pos (by decide +kernel)]; kernel_rfl) | (rw [if_neg (by decide +kernel)]; exact ⟨rfl, rfl⟩)
end Go.Proofs.YtgimdkgjfenafaaGreatDoor.onDialectFitsR
