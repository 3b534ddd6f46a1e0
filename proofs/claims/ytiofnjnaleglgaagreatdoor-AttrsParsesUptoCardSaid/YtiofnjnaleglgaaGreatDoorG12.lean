/-
  Texts of mine in one file: TL.
-/
import Derived.Test.YtiofnjnaleglgaaGreatDoorG04
import Derived.Test.YtiofnjnaleglgaaGreatDoorG11
import Derived.Test.YtiofnjnaleglgaaGreatDoorG08
import Derived.SliceStrings
import Derived.ChangeSlices
/-
  What a row gives of an argument that is a list: its address, its elements, its capacity.
-/
namespace Go.Proofs.YtiofnjnaleglgaaGreatDoor
open Go.ChangeShapes Go.WideShapes Go.ChangeAt Go.RowKit

theorem cells_int1 : Tryz.prog.cellsOf 3 = 1 := by kernel_rfl
set_option maxRecDepth 100000 in
theorem open_intl {H : Type} {enc : TypeId × Value → H} {W : World} {base : Nat} {v : Value} {d : DataW H} {p : List MemPlace} (hval : Value.okWide Tryz.prog W .any base 100 v) (h : DataW.Trod enc Tryz.prog W 0 (fun _ => true) true 100 v d p) :
    ∃ (ao : Option Addr) (zs : List Int) (c : Nat), v = .slice ao zs.length c ∧ zs.length ≤ c ∧ zs.length ≤ 9223372036854775807 ∧ IntsAt W ao zs := by
  obtain ⟨a0, n, c, rfl⟩ := Go.WideShapes.okWide_slice Tryz.underlying100 hval
  obtain ⟨fuel, h⟩ := h
  rcases open_ints Tryz.underlying100 Tryz.underlying3 cells_int1 h with ⟨hcs, hx⟩ | ⟨a, len, cap, zs, hcs, _, hl, hm, hz, hx, hcell, _⟩
  · simp [Value.cells] at hcs
    obtain ⟨rfl, rfl, rfl⟩ := hcs
    exact ⟨none, [], 0, rfl, Nat.le_refl _, Nat.zero_le _, .inl rfl⟩
  · simp [Value.cells] at hcs
    obtain ⟨h1, h2, h3⟩ := hcs
    subst h1 h2 h3
    simp only [if_true] at hz
    have e : (zs.take n).length = n := by rw [List.length_take]; omega
    refine ⟨some a, zs.take n, c, by rw [e], by omega, by unfold maxLen at hm; omega, .inr ⟨a, rfl, fun j hj => ?_⟩⟩
    rw [e] at hj
    rw [hcell j (by omega), List.getElem?_take_of_lt hj, List.getD_eq_getElem?_getD]

set_option maxRecDepth 100000 in
theorem open_strl {H : Type} {enc : TypeId × Value → H} {W : World} {base : Nat} {v : Value} {d : DataW H} {p : List MemPlace} (hval : Value.okWide Tryz.prog W .any base 27 v) (h : DataW.Trod enc Tryz.prog W 0 (fun _ => true) true 27 v d p) :
    ∃ (ao : Option Addr) (ss : List ByteArray) (c : Nat), v = .slice ao ss.length c ∧ ss.length ≤ c ∧ ss.length ≤ 9223372036854775807 ∧ StrsAt W ao ss ∧ ∀ s ∈ ss, s.size ≤ 9223372036854775807 := by
  obtain ⟨a0, n, c, rfl⟩ := Go.WideShapes.okWide_slice Tryz.underlying27 hval
  obtain ⟨fuel, h⟩ := h
  rcases open_strings Tryz.underlying27 Tryz.underlying9 cells_string h with ⟨hcs, hx⟩ | ⟨a, len, cap, ss, hcs, _, hl, hm, hz, hx, hcell, hw⟩
  · simp [Value.cells] at hcs
    obtain ⟨rfl, rfl, rfl⟩ := hcs
    exact ⟨none, [], 0, rfl, Nat.le_refl _, Nat.zero_le _, .inl rfl, fun s hs => by cases hs⟩
  · simp [Value.cells] at hcs
    obtain ⟨h1, h2, h3⟩ := hcs
    subst h1 h2 h3
    simp only [if_true] at hz
    have e : (ss.take n).length = n := by rw [List.length_take]; omega
    refine ⟨some a, ss.take n, c, by rw [e], by omega, by unfold maxLen at hm; omega, .inr ⟨a, rfl, fun j hj => ?_⟩, fun s hs => by simpa only [maxLen] using hw s (List.mem_of_mem_take hs)⟩
    rw [e] at hj
    rw [hcell j (by omega), List.getElem?_take_of_lt hj, List.getD_eq_getElem?_getD]

/-- What the bound of the second form gives: the length of the one string. -/
theorem short {H : Type} {s : ByteArray} (hk : Rows.uptoSmall H [.lit (.string s.data.toList)] = true) : s.size ≤ 1048576 := by
  have h : Rows.uptoBulkAll [DataW.lit (H := H) (.string s.data.toList)] ≤ 1048576 := of_decide_eq_true hk
  simp only [Rows.uptoBulkAll, Rows.uptoBulk] at h
  rw [size_eq]
  omega
end Go.Proofs.YtiofnjnaleglgaaGreatDoor

