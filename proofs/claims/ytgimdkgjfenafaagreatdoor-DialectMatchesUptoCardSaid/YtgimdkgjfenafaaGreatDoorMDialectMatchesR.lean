import Derived.Test.YtgimdkgjfenafaaGreatDoorG47
import Derived.Test.YtgimdkgjfenafaaGreatDoorG48
import Derived.Test.YtgimdkgjfenafaaGreatDoorMDialectMatchesP
import Derived.Test.YtgimdkgjfenafaaGreatDoorMDialectMatchesQ
namespace Go.Proofs.YtgimdkgjfenafaaGreatDoor.onDialectMatchesR
theorem k1 : (Rows.dialectMatchesUptoRow.wf (OpenSpec.ofChange (Rows.OpenSpec.upto Rows.dialectMatchesSpec).bare)) = true := by kernel_rfl
theorem k4 : (Tryz.f5.params.all (Tryz.pinned.checked.prog.readableRec ·)) = true := by kernel_rfl
theorem k5 : (namedTie Tryz.pinned.checked.prog Rows.dialectMatchesUptoRow.named (Rows.OpenSpec.upto Rows.dialectMatchesSpec).bare.vars) = true := by kernel_rfl
theorem k6 : (Rows.dialectMatchesUptoRow.stops == []) = true := by kernel_rfl
theorem k8 : (Rows.dialectMatchesUptoRow.knobs == []) = true := by kernel_rfl
theorem k14 : (Rows.dialectMatchesUptoRow.maps == (Tryz.f5.params.toList ++ (Rows.OpenSpec.upto Rows.dialectMatchesSpec).bare.plain.varTypes Tryz.pinned.checked.prog).any (Tryz.pinned.checked.prog.mapsRec ·)) = true := by kernel_rfl
theorem k15 : (Rows.dialectMatchesUptoRow.ifaces == (Tryz.f5.params.toList ++ (Rows.OpenSpec.upto Rows.dialectMatchesSpec).bare.plain.varTypes Tryz.pinned.checked.prog).any (Tryz.pinned.checked.prog.ifacesRec ·)) = true := by kernel_rfl
theorem k16 : (Rows.dialectMatchesUptoRow.mapsOut == Tryz.pinned.checked.prog.mapsAmong Tryz.f5.resultTypes.toList) = true := by kernel_rfl
theorem k17 : (Rows.dialectMatchesUptoRow.loops == (Tryz.f5.params.toList ++ (Rows.OpenSpec.upto Rows.dialectMatchesSpec).bare.plain.varTypes Tryz.pinned.checked.prog).any (Tryz.pinned.checked.prog.loopsFrom ·)) = true := by kernel_rfl
theorem k18 : (Rows.dialectMatchesUptoRow.wideKeys == (Tryz.f5.params.toList ++ (Rows.OpenSpec.upto Rows.dialectMatchesSpec).bare.plain.varTypes Tryz.pinned.checked.prog ++ Tryz.f5.resultTypes.toList).any (Tryz.pinned.checked.prog.wideKeysFrom ·)) = true := by kernel_rfl
theorem k19 : ((Rows.OpenSpec.upto Rows.dialectMatchesSpec).bare.vars.all (Tryz.pinned.checked.prog.varReadable ·)) = true := by kernel_rfl
theorem k20 : (Tryz.f5.resultTypes.all (fun t => Tryz.pinned.checked.prog.readableRec t && decide (t < Tryz.pinned.checked.prog.types.size))) = true := by kernel_rfl
theorem k21 : (Rows.dialectMatchesUptoRow.ifacesOut == Tryz.f5.resultTypes.toList.any (Tryz.pinned.checked.prog.ifacesRec ·)) = true := by kernel_rfl
theorem k22 : (Rows.dialectMatchesUptoRow.loopsOut == Tryz.f5.resultTypes.toList.any (Tryz.pinned.checked.prog.loopsFrom ·)) = true := by kernel_rfl
theorem k23 : (Rows.dialectMatchesUptoRow.plainKeys == Tryz.pinned.checked.prog.plainKeys) = true := by kernel_rfl
theorem k24 : (Rows.dialectMatchesUptoRow.shortTexts.isNone) = true := by kernel_rfl
theorem k29 : (Rows.dialectMatchesUptoRow.kinds == (if Rows.dialectMatchesUptoRow.domain.isEmpty then [] else Tryz.f5.params.toList.map fun t => match Tryz.pinned.checked.prog.underlying t with | some (.int k) => some k | _ => none)) = true := by kernel_rfl
theorem k30 : (Rows.dialectMatchesUptoRow.pinned == Rows.dialectMatchesUptoRow.pinnedBy) = true := by kernel_rfl
theorem k31 : (Rows.dialectMatchesUptoRow.veiled == (Tryz.f5.params.toList ++ (Rows.OpenSpec.upto Rows.dialectMatchesSpec).bare.plain.varTypes Tryz.pinned.checked.prog ++ Tryz.f5.resultTypes.toList).any (Tryz.pinned.checked.prog.veiledRec ·)) = true := by kernel_rfl
theorem k32 : (Rows.dialectMatchesUptoRow.veiledFits Tryz.pinned.checked.prog Tryz.f5.params.toList (Tryz.f5.params.toList ++ (Rows.OpenSpec.upto Rows.dialectMatchesSpec).bare.plain.varTypes Tryz.pinned.checked.prog ++ Tryz.f5.resultTypes.toList)) = true := by kernel_rfl
set_option maxRecDepth 100000 in
theorem closed : joinedFacts Tryz.pinned.checked.prog 5 Tryz.f5 (Rows.OpenSpec.upto Rows.dialectMatchesSpec).bare Rows.dialectMatchesUptoRow = true :=
 DxP1.joined_of k1 DxP1.p2 DxP1.p3 k4 k5 k6 DxP1.p7 k8 DxP1.p9 onDialectMatchesP.k10 onDialectMatchesP.k11 onDialectMatchesP.k12 onDialectMatchesQ.k13 k14 k15 k16 k17 k18 k19 k20 k21 k22 k23 k24 DxP2.p25 DxP2.p26 onDialectMatchesQ.k27 onDialectMatchesQ.k28 k29 k30 k31 k32
theorem named : Tryz.pinned.checked.prog.funcNamed Rows.dialectMatchesUptoRow.func = some 5 := by kernel_rfl
set_option maxRecDepth 100000 in
theorem inst : Tryz.f5.isInstance Tryz.pinned.checked.prog Rows.dialectMatchesUptoRow.origin Rows.dialectMatchesUptoRow.targs := of_decide_eq_true (by kernel_rfl)
set_option maxRecDepth 100000 in
theorem wrap : Tryz.f5.isWrapper Tryz.pinned.checked.prog Rows.dialectMatchesUptoRow.wrapper Rows.dialectMatchesUptoRow.mainSum := by
 unfold Func.isWrapper; first | (rw [if_pos (by decide +kernel)]; kernel_rfl) | (rw [if_neg (by decide +kernel)]; exact ⟨rfl, rfl⟩)
end Go.Proofs.YtgimdkgjfenafaaGreatDoor.onDialectMatchesR
