/-
  Texts of mine in one file: ZA.
-/
import Derived.Test.YtiofnjnaleglgaaGreatDoorG15
import Derived.Test.YtiofnjnaleglgaaGreatDoorG11
/-
  The law 'TypesChecks': it answers true, whatever its argument is.
-/
namespace Go.Proofs.YtiofnjnaleglgaaGreatDoor
open Go.RowKit

/-- A string that is no type, or one that is, for the program and for the reference. -/
theorem agree_ty (s : ByteArray) : (readR s.data.toList = none ∧ NoTy s) ∨ ∃ (k b : Int) (r : Nat) (e0 e1 e2 : Int) (el : ByteArray), r ≤ 3 ∧ readR s.data.toList = some (k, b, [e0, e1, e2].take r, el.data.toList) ∧ Ty s k b r e0 e1 e2 el := by
  rcases agree s.data.toList with ⟨h1, h2⟩ | ⟨k, b, r, e0, e1, e2, el, hr, h1, h2, h3⟩
  · exact .inl ⟨h1, h2⟩
  · exact .inr ⟨k, b, r, e0, e1, e2, ⟨el.toArray⟩, hr, h1, h2, h3⟩
theorem number_ty {s el : ByteArray} {k b e0 e1 e2 : Int} {r : Nat} (h : Ty s k b r e0 e1 e2 el) : (numberR s.data.toList).2.2 = decide (0 < b) := by rw [← numB_numberR, desc_num h.is]
theorem bits_nonneg {s el : ByteArray} {k b e0 e1 e2 : Int} {r : Nat} (h : Ty s k b r e0 e1 e2 el) : 0 ≤ b := (desc_wf h.is).2.1.1

end Go.Proofs.YtiofnjnaleglgaaGreatDoor

