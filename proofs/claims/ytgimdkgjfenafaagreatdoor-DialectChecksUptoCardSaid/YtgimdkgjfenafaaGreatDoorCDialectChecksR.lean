import Derived.Test.YtgimdkgjfenafaaGreatDoorCG47
import Derived.Test.YtgimdkgjfenafaaGreatDoorCG48
import Derived.Test.YtgimdkgjfenafaaGreatDoorCDialectChecksP
import Derived.Test.YtgimdkgjfenafaaGreatDoorCDialectChecksQ
namespace Go.Proofs.YtgimdkgjfenafaaGreatDoor.onDialectChecksR
theorem k1 : (Rows.dialectChecksUptoRow.wf (OpenSpec.ofChange (Rows.OpenSpec.upto Rows.dialectChecksSpec).bare)) = true := by kernel_rfl
theorem k4 : (Tryz.f3.params.all (Tryz.pinned.checked.prog.readableRec ·)) = true := by kernel_rfl
theorem k5 : (namedTie Tryz.pinned.checked.prog Rows.dialectChecksUptoRow.named (Rows.OpenSpec.upto Rows.dialectChecksSpec).bare.vars) = true := by kernel_rfl
theorem k6 : (Rows.dialectChecksUptoRow.stops == []) = true := by kernel_rfl
theorem k8 : (Rows.dialectChecksUptoRow.knobs == []) = true := by kernel_rfl
theorem k14 : (Rows.dialectChecksUptoRow.maps == (Tryz.f3.params.toList ++ (Rows.OpenSpec.upto Rows.dialectChecksSpec).bare.plain.varTypes Tryz.pinned.checked.prog).any (Tryz.pinned.checked.prog.mapsRec ·)) = true := by kernel_rfl
theorem k15 : (Rows.dialectChecksUptoRow.ifaces == (Tryz.f3.params.toList ++ (Rows.OpenSpec.upto Rows.dialectChecksSpec).bare.plain.varTypes Tryz.pinned.checked.prog).any (Tryz.pinned.checked.prog.ifacesRec ·)) = true := by kernel_rfl
theorem k16 : (Rows.dialectChecksUptoRow.mapsOut == Tryz.pinned.checked.prog.mapsAmong Tryz.f3.resultTypes.toList) = true := by kernel_rfl
theorem k17 : (Rows.dialectChecksUptoRow.loops == (Tryz.f3.params.toList ++ (Rows.OpenSpec.upto Rows.dialectChecksSpec).bare.plain.varTypes Tryz.pinned.checked.prog).any (Tryz.pinned.checked.prog.loopsFrom ·)) = true := by kernel_rfl
theorem k18 : (Rows.dialectChecksUptoRow.wideKeys == (Tryz.f3.params.toList ++ (Rows.OpenSpec.upto Rows.dialectChecksSpec).bare.plain.varTypes Tryz.pinned.checked.prog ++ Tryz.f3.resultTypes.toList).any (Tryz.pinned.checked.prog.wideKeysFrom ·)) = true := by kernel_rfl
theorem k19 : ((Rows.OpenSpec.upto Rows.dialectChecksSpec).bare.vars.all (Tryz.pinned.checked.prog.varReadable ·)) = true := by kernel_rfl
theorem k20 : (Tryz.f3.resultTypes.all (fun t => Tryz.pinned.checked.prog.readableRec t && decide (t < Tryz.pinned.checked.prog.types.size))) = true := by kernel_rfl
theorem k21 : (Rows.dialectChecksUptoRow.ifacesOut == Tryz.f3.resultTypes.toList.any (Tryz.pinned.checked.prog.ifacesRec ·)) = true := by kernel_rfl
theorem k22 : (Rows.dialectChecksUptoRow.loopsOut == Tryz.f3.resultTypes.toList.any (Tryz.pinned.checked.prog.loopsFrom ·)) = true := by kernel_rfl
theorem k23 : (Rows.dialectChecksUptoRow.plainKeys == Tryz.pinned.checked.prog.plainKeys) = true := by kernel_rfl
theorem k24 : (Rows.dialectChecksUptoRow.shortTexts.isNone) = true := by kernel_rfl
theorem k29 : (Rows.dialectChecksUptoRow.kinds == (if Rows.dialectChecksUptoRow.domain.isEmpty then [] else Tryz.f3.params.toList.map fun t => match Tryz.pinned.checked.prog.underlying t with | some (.int k) => some k | _ => none)) = true := by kernel_rfl
theorem k30 : (Rows.dialectChecksUptoRow.pinned == Rows.dialectChecksUptoRow.pinnedBy) = true := by kernel_rfl
theorem k31 : (Rows.dialectChecksUptoRow.veiled == (Tryz.f3.params.toList ++ (Rows.OpenSpec.upto Rows.dialectChecksSpec).bare.plain.varTypes Tryz.pinned.checked.prog ++ Tryz.f3.resultTypes.toList).any (Tryz.pinned.checked.prog.veiledRec ·)) = true := by kernel_rfl
theorem k32 : (Rows.dialectChecksUptoRow.veiledFits Tryz.pinned.checked.prog Tryz.f3.params.toList (Tryz.f3.params.toList ++ (Rows.OpenSpec.upto Rows.dialectChecksSpec).bare.plain.varTypes Tryz.pinned.checked.prog ++ Tryz.f3.resultTypes.toList)) = true := by kernel_rfl
set_option maxRecDepth 100000 in
theorem closed : joinedFacts Tryz.pinned.checked.prog 3 Tryz.f3 (Rows.OpenSpec.upto Rows.dialectChecksSpec).bare Rows.dialectChecksUptoRow = true :=
 DxP1.joined_of k1 DxP1.p2 DxP1.p3 k4 k5 k6 DxP1.p7 k8 DxP1.p9 onDialectChecksP.k10 onDialectChecksP.k11 onDialectChecksP.k12 onDialectChecksQ.k13 k14 k15 k16 k17 k18 k19 k20 k21 k22 k23 k24 DxP2.p25 DxP2.p26 onDialectChecksQ.k27 onDialectChecksQ.k28 k29 k30 k31 k32
theorem named : Tryz.pinned.checked.prog.funcNamed Rows.dialectChecksUptoRow.func = some 3 := by kernel_rfl
set_option maxRecDepth 100000 in
theorem inst : Tryz.f3.isInstance Tryz.pinned.checked.prog Rows.dialectChecksUptoRow.origin Rows.dialectChecksUptoRow.targs := of_decide_eq_true (by kernel_rfl)
set_option maxRecDepth 100000 in
theorem wrap : Tryz.f3.isWrapper Tryz.pinned.checked.prog Rows.dialectChecksUptoRow.wrapper Rows.dialectChecksUptoRow.mainSum := by
 unfold Func.isWrapper; first | (rw [if_pos (by decide +kernel)]; kernel_rfl) | (rw [if_neg (by decide +kernel)]; exact ⟨rfl, rfl⟩)
end Go.Proofs.YtgimdkgjfenafaaGreatDoor.onDialectChecksR
