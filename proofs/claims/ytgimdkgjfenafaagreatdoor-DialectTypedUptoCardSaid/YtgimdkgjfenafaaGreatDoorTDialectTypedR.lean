import Derived.Test.YtgimdkgjfenafaaGreatDoorG47
import Derived.Test.YtgimdkgjfenafaaGreatDoorG48
import Derived.Test.YtgimdkgjfenafaaGreatDoorTDialectTypedP
import Derived.Test.YtgimdkgjfenafaaGreatDoorTDialectTypedQ
namespace Go.Proofs.YtgimdkgjfenafaaGreatDoor.onDialectTypedR
theorem k1 : (Rows.dialectTypedUptoRow.wf (OpenSpec.ofChange (Rows.OpenSpec.upto Rows.dialectTypedSpec).bare)) = true := by kernel_rfl
theorem k4 : (Tryz.f10.params.all (Tryz.pinned.checked.prog.readableRec ·)) = true := by kernel_rfl
theorem k5 : (namedTie Tryz.pinned.checked.prog Rows.dialectTypedUptoRow.named (Rows.OpenSpec.upto Rows.dialectTypedSpec).bare.vars) = true := by kernel_rfl
theorem k6 : (Rows.dialectTypedUptoRow.stops == []) = true := by kernel_rfl
theorem k8 : (Rows.dialectTypedUptoRow.knobs == []) = true := by kernel_rfl
theorem k14 : (Rows.dialectTypedUptoRow.maps == (Tryz.f10.params.toList ++ (Rows.OpenSpec.upto Rows.dialectTypedSpec).bare.plain.varTypes Tryz.pinned.checked.prog).any (Tryz.pinned.checked.prog.mapsRec ·)) = true := by kernel_rfl
theorem k15 : (Rows.dialectTypedUptoRow.ifaces == (Tryz.f10.params.toList ++ (Rows.OpenSpec.upto Rows.dialectTypedSpec).bare.plain.varTypes Tryz.pinned.checked.prog).any (Tryz.pinned.checked.prog.ifacesRec ·)) = true := by kernel_rfl
theorem k16 : (Rows.dialectTypedUptoRow.mapsOut == Tryz.pinned.checked.prog.mapsAmong Tryz.f10.resultTypes.toList) = true := by kernel_rfl
theorem k17 : (Rows.dialectTypedUptoRow.loops == (Tryz.f10.params.toList ++ (Rows.OpenSpec.upto Rows.dialectTypedSpec).bare.plain.varTypes Tryz.pinned.checked.prog).any (Tryz.pinned.checked.prog.loopsFrom ·)) = true := by kernel_rfl
theorem k18 : (Rows.dialectTypedUptoRow.wideKeys == (Tryz.f10.params.toList ++ (Rows.OpenSpec.upto Rows.dialectTypedSpec).bare.plain.varTypes Tryz.pinned.checked.prog ++ Tryz.f10.resultTypes.toList).any (Tryz.pinned.checked.prog.wideKeysFrom ·)) = true := by kernel_rfl
theorem k19 : ((Rows.OpenSpec.upto Rows.dialectTypedSpec).bare.vars.all (Tryz.pinned.checked.prog.varReadable ·)) = true := by kernel_rfl
theorem k20 : (Tryz.f10.resultTypes.all (fun t => Tryz.pinned.checked.prog.readableRec t && decide (t < Tryz.pinned.checked.prog.types.size))) = true := by kernel_rfl
theorem k21 : (Rows.dialectTypedUptoRow.ifacesOut == Tryz.f10.resultTypes.toList.any (Tryz.pinned.checked.prog.ifacesRec ·)) = true := by kernel_rfl
theorem k22 : (Rows.dialectTypedUptoRow.loopsOut == Tryz.f10.resultTypes.toList.any (Tryz.pinned.checked.prog.loopsFrom ·)) = true := by kernel_rfl
theorem k23 : (Rows.dialectTypedUptoRow.plainKeys == Tryz.pinned.checked.prog.plainKeys) = true := by kernel_rfl
theorem k24 : (Rows.dialectTypedUptoRow.shortTexts.isNone) = true := by kernel_rfl
theorem k29 : (Rows.dialectTypedUptoRow.kinds == (if Rows.dialectTypedUptoRow.domain.isEmpty then [] else Tryz.f10.params.toList.map fun t => match Tryz.pinned.checked.prog.underlying t with | some (.int k) => some k | _ => none)) = true := by kernel_rfl
theorem k30 : (Rows.dialectTypedUptoRow.pinned == Rows.dialectTypedUptoRow.pinnedBy) = true := by kernel_rfl
theorem k31 : (Rows.dialectTypedUptoRow.veiled == (Tryz.f10.params.toList ++ (Rows.OpenSpec.upto Rows.dialectTypedSpec).bare.plain.varTypes Tryz.pinned.checked.prog ++ Tryz.f10.resultTypes.toList).any (Tryz.pinned.checked.prog.veiledRec ·)) = true := by kernel_rfl
theorem k32 : (Rows.dialectTypedUptoRow.veiledFits Tryz.pinned.checked.prog Tryz.f10.params.toList (Tryz.f10.params.toList ++ (Rows.OpenSpec.upto Rows.dialectTypedSpec).bare.plain.varTypes Tryz.pinned.checked.prog ++ Tryz.f10.resultTypes.toList)) = true := by kernel_rfl
set_option maxRecDepth 100000 in
theorem closed : joinedFacts Tryz.pinned.checked.prog 10 Tryz.f10 (Rows.OpenSpec.upto Rows.dialectTypedSpec).bare Rows.dialectTypedUptoRow = true :=
 DxP1.joined_of k1 DxP1.p2 DxP1.p3 k4 k5 k6 DxP1.p7 k8 DxP1.p9 onDialectTypedP.k10 onDialectTypedP.k11 onDialectTypedP.k12 onDialectTypedQ.k13 k14 k15 k16 k17 k18 k19 k20 k21 k22 k23 k24 DxP2.p25 DxP2.p26 onDialectTypedQ.k27 onDialectTypedQ.k28 k29 k30 k31 k32
theorem named : Tryz.pinned.checked.prog.funcNamed Rows.dialectTypedUptoRow.func = some 10 := by kernel_rfl
set_option maxRecDepth 100000 in
theorem inst : Tryz.f10.isInstance Tryz.pinned.checked.prog Rows.dialectTypedUptoRow.origin Rows.dialectTypedUptoRow.targs := of_decide_eq_true (by kernel_rfl)
set_option maxRecDepth 100000 in
theorem wrap : Tryz.f10.isWrapper Tryz.pinned.checked.prog Rows.dialectTypedUptoRow.wrapper Rows.dialectTypedUptoRow.mainSum := by
 unfold Func.isWrapper; first | (rw [if_pos (by decide +kernel)]; kernel_rfl) | (rw [if_neg (by decide +kernel)]; exact ⟨rfl, rfl⟩)
end Go.Proofs.YtgimdkgjfenafaaGreatDoor.onDialectTypedR
