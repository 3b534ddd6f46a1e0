import Derived.Test.YtgimdkgjfenafaaGreatDoorG47
import Derived.Test.YtgimdkgjfenafaaGreatDoorG48
import Derived.Test.YtgimdkgjfenafaaGreatDoorIDialectInfersP
import Derived.Test.YtgimdkgjfenafaaGreatDoorIDialectInfersQ
namespace Go.Proofs.YtgimdkgjfenafaaGreatDoor.onDialectInfersR
theorem k1 : (Rows.dialectInfersUptoRow.wf (OpenSpec.ofChange (Rows.OpenSpec.upto Rows.dialectInfersSpec).bare)) = true := by kernel_rfl
theorem k4 : (Tryz.f6.params.all (Tryz.pinned.checked.prog.readableRec ·)) = true := by kernel_rfl
theorem k5 : (namedTie Tryz.pinned.checked.prog Rows.dialectInfersUptoRow.named (Rows.OpenSpec.upto Rows.dialectInfersSpec).bare.vars) = true := by kernel_rfl
theorem k6 : (Rows.dialectInfersUptoRow.stops == []) = true := by kernel_rfl
theorem k8 : (Rows.dialectInfersUptoRow.knobs == []) = true := by kernel_rfl
theorem k14 : (Rows.dialectInfersUptoRow.maps == (Tryz.f6.params.toList ++ (Rows.OpenSpec.upto Rows.dialectInfersSpec).bare.plain.varTypes Tryz.pinned.checked.prog).any (Tryz.pinned.checked.prog.mapsRec ·)) = true := by kernel_rfl
theorem k15 : (Rows.dialectInfersUptoRow.ifaces == (Tryz.f6.params.toList ++ (Rows.OpenSpec.upto Rows.dialectInfersSpec).bare.plain.varTypes Tryz.pinned.checked.prog).any (Tryz.pinned.checked.prog.ifacesRec ·)) = true := by kernel_rfl
theorem k16 : (Rows.dialectInfersUptoRow.mapsOut == Tryz.pinned.checked.prog.mapsAmong Tryz.f6.resultTypes.toList) = true := by kernel_rfl
theorem k17 : (Rows.dialectInfersUptoRow.loops == (Tryz.f6.params.toList ++ (Rows.OpenSpec.upto Rows.dialectInfersSpec).bare.plain.varTypes Tryz.pinned.checked.prog).any (Tryz.pinned.checked.prog.loopsFrom ·)) = true := by kernel_rfl
theorem k18 : (Rows.dialectInfersUptoRow.wideKeys == (Tryz.f6.params.toList ++ (Rows.OpenSpec.upto Rows.dialectInfersSpec).bare.plain.varTypes Tryz.pinned.checked.prog ++ Tryz.f6.resultTypes.toList).any (Tryz.pinned.checked.prog.wideKeysFrom ·)) = true := by kernel_rfl
theorem k19 : ((Rows.OpenSpec.upto Rows.dialectInfersSpec).bare.vars.all (Tryz.pinned.checked.prog.varReadable ·)) = true := by kernel_rfl
theorem k20 : (Tryz.f6.resultTypes.all (fun t => Tryz.pinned.checked.prog.readableRec t && decide (t < Tryz.pinned.checked.prog.types.size))) = true := by kernel_rfl
theorem k21 : (Rows.dialectInfersUptoRow.ifacesOut == Tryz.f6.resultTypes.toList.any (Tryz.pinned.checked.prog.ifacesRec ·)) = true := by kernel_rfl
theorem k22 : (Rows.dialectInfersUptoRow.loopsOut == Tryz.f6.resultTypes.toList.any (Tryz.pinned.checked.prog.loopsFrom ·)) = true := by kernel_rfl
theorem k23 : (Rows.dialectInfersUptoRow.plainKeys == Tryz.pinned.checked.prog.plainKeys) = true := by kernel_rfl
theorem k24 : (Rows.dialectInfersUptoRow.shortTexts.isNone) = true := by kernel_rfl
theorem k29 : (Rows.dialectInfersUptoRow.kinds == (if Rows.dialectInfersUptoRow.domain.isEmpty then [] else Tryz.f6.params.toList.map fun t => match Tryz.pinned.checked.prog.underlying t with | some (.int k) => some k | _ => none)) = true := by kernel_rfl
theorem k30 : (Rows.dialectInfersUptoRow.pinned == Rows.dialectInfersUptoRow.pinnedBy) = true := by kernel_rfl
theorem k31 : (Rows.dialectInfersUptoRow.veiled == (Tryz.f6.params.toList ++ (Rows.OpenSpec.upto Rows.dialectInfersSpec).bare.plain.varTypes Tryz.pinned.checked.prog ++ Tryz.f6.resultTypes.toList).any (Tryz.pinned.checked.prog.veiledRec ·)) = true := by kernel_rfl
theorem k32 : (Rows.dialectInfersUptoRow.veiledFits Tryz.pinned.checked.prog Tryz.f6.params.toList (Tryz.f6.params.toList ++ (Rows.OpenSpec.upto Rows.dialectInfersSpec).bare.plain.varTypes Tryz.pinned.checked.prog ++ Tryz.f6.resultTypes.toList)) = true := by kernel_rfl
set_option maxRecDepth 100000 in
theorem closed : joinedFacts Tryz.pinned.checked.prog 6 Tryz.f6 (Rows.OpenSpec.upto Rows.dialectInfersSpec).bare Rows.dialectInfersUptoRow = true :=
 DxP1.joined_of k1 DxP1.p2 DxP1.p3 k4 k5 k6 DxP1.p7 k8 DxP1.p9 onDialectInfersP.k10 onDialectInfersP.k11 onDialectInfersP.k12 onDialectInfersQ.k13 k14 k15 k16 k17 k18 k19 k20 k21 k22 k23 k24 DxP2.p25 DxP2.p26 onDialectInfersQ.k27 onDialectInfersQ.k28 k29 k30 k31 k32
theorem named : Tryz.pinned.checked.prog.funcNamed Rows.dialectInfersUptoRow.func = some 6 := by kernel_rfl
set_option maxRecDepth 100000 in
theorem inst : Tryz.f6.isInstance Tryz.pinned.checked.prog Rows.dialectInfersUptoRow.origin Rows.dialectInfersUptoRow.targs := of_decide_eq_true (by kernel_rfl)
set_option maxRecDepth 100000 in
theorem wrap : Tryz.f6.isWrapper Tryz.pinned.checked.prog Rows.dialectInfersUptoRow.wrapper Rows.dialectInfersUptoRow.mainSum := by
 unfold Func.isWrapper; first | (rw [if_pos (by decide +kernel)]; kernel_rfl) | (rw [if_neg (by decide +kernel)]; exact ⟨rfl, rfl⟩)
end Go.Proofs.YtgimdkgjfenafaaGreatDoor.onDialectInfersR
