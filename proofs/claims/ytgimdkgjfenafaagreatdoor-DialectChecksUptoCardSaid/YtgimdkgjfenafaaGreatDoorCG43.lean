import Derived.Test.YtgimdkgjfenafaaGreatDoorCG34
import Derived.Test.YtgimdkgjfenafaaGreatDoorCG42
import Derived.Test.YtgimdkgjfenafaaGreatDoorCG20
namespace Go.Proofs.YtgimdkgjfenafaaGreatDoor
open Go.RowKit
def risingC (ns : List ByteArray) : Bool := (List.range ns.length).all fun i => i == 0 || Op.bytesLess (nthB ns (i - 1)).data.toList (nthB ns i).data.toList
theorem risingC_eq (ns : List ByteArray) : risingL ns = risingC ns := by
 unfold risingL risingC riseAt
 simp only [ByteArray.toList_eq]
def rightC (d : DefD) : Bool :=
 isNameR d.name.data.toList && (decide (d.needs.length ≤ 10) && risingC (d.needs.map (fun x : NeedD => x.name)) && d.needs.all rightN) && decide (0 ≤ d.regions) && decide (d.regions ≤ 3) && decide (0 ≤ d.succs) && decide (d.succs ≤ 4) && signedL d &&
  (risingC d.traits && d.traits.all (isIn allTraitsL) && !(isIn d.traits pureS && effectsL.any (isIn d.traits))) && (!decide (0 < d.succs) || isIn d.traits endS) && (!isIn d.traits commS || exchL (d.ins.map ruleOf))
theorem rightC_eq (d : DefD) : rightD d = rightC d := by
 unfold rightD rightC rightNeedsL rightTraitsL
 rw [risingC_eq, risingC_eq]
def fitB (d : DefD) : Bool := d.ins.all (fun s => decide (s.size ≤ 1000)) && d.outs.all (fun s => decide (s.size ≤ 1000)) && decide (d.ins.length ≤ 1000) && decide (d.outs.length ≤ 1000) && decide (d.needs.length ≤ 1000) && decide (d.traits.length ≤ 1000)
theorem fit_of {d : DefD} (h : fitB d = true) : DefFit d := by
 unfold fitB at h
 simp only [Bool.and_eq_true, decide_eq_true_eq, List.all_eq_true] at h
 exact ⟨fun s hs => by have := h.1.1.1.1.1 s hs; omega, fun s hs => by have := h.1.1.1.1.2 s hs; omega, by have := h.1.1.1.2; omega, by have := h.1.1.2; omega, by have := h.1.2; omega, by have := h.2; omega⟩
def addS : ByteArray := ⟨#[97, 114, 105, 116, 104, 46, 97, 100, 100]⟩
def loadS : ByteArray := ⟨#[109, 101, 109, 46, 108, 111, 97, 100]⟩
def addD : DefD := ⟨⟨#[97, 100, 100]⟩, [⟨#[97, 58, 110, 117, 109]⟩, ⟨#[97]⟩], [⟨#[97]⟩], [], 0, 0, [⟨#[99, 111, 109, 109, 117, 116, 101, 115]⟩, ⟨#[112, 117, 114, 101]⟩]⟩
def loadD : DefD := ⟨⟨#[108, 111, 97, 100]⟩, [⟨#[109, 58, 109, 101, 109]⟩, ⟨#[105, 110, 100, 101, 120, 94, 109]⟩], [⟨#[101, 108, 101, 109, 32, 109]⟩], [], 0, 0, [⟨#[114, 101, 97, 100, 115]⟩, ⟨#[116, 114, 97, 112, 115]⟩]⟩
theorem defn_add : defnOf [] addS = some addD := by
 unfold defnOf coreFind findD
 simp only [ByteArray.toList_eq]
 kernel_rfl
theorem defn_load : defnOf [] loadS = some loadD := by
 unfold defnOf coreFind findD
 simp only [ByteArray.toList_eq]
 kernel_rfl
theorem right_nil : rightXs [] = true := by kernel_rfl
theorem right_add : rightD addD = true := by rw [rightC_eq]; kernel_rfl
theorem right_load : rightD loadD = true := by rw [rightC_eq]; kernel_rfl
def memT : ByteArray := ⟨#[109, 101, 109, 60, 52, 120, 51, 120, 105, 56, 62]⟩
def i8T : ByteArray := ⟨#[105, 56]⟩
def i32T : ByteArray := ⟨#[105, 51, 50]⟩
def i64T : ByteArray := ⟨#[105, 54, 52]⟩
theorem infer1 : inferE loadD [memT, indexS, indexS] = ([i8T], 0) := by unfold inferE; rw [right_load]; kernel_rfl
theorem infer2 : inferE loadD [memT, indexS] = ([], 61) := by unfold inferE; rw [right_load]; kernel_rfl
theorem match1 : matchE addD [i32T, i32T] [i32T] = 0 := by unfold matchE; rw [right_add]; kernel_rfl
theorem match2 : matchE addD [i32T, i64T] [i32T] = 62 := by unfold matchE; rw [right_add]; kernel_rfl
theorem match3 : matchE addD [i32T] [i32T] = 61 := by unfold matchE; rw [right_add]; kernel_rfl
theorem fit_add : DefFit addD := fit_of (by kernel_rfl)
theorem fit_load : DefFit loadD := fit_of (by kernel_rfl)
theorem core_shorts : ∀ d ∈ coreD, ∀ e ∈ d.ops, DefShort e := by
 have h : (coreD.all fun d => d.ops.all shortB) = true := by kernel_rfl
 intro d hd e he
 exact short_of (List.all_eq_true.1 (List.all_eq_true.1 h d hd) e he)
theorem core_types : ∀ d ∈ coreD, d.types = [] := by
 have h : (coreD.all fun d => d.types.isEmpty) = true := by kernel_rfl
 intro d hd
 exact List.isEmpty_iff.1 (List.all_eq_true.1 h d hd)
end Go.Proofs.YtgimdkgjfenafaaGreatDoor
