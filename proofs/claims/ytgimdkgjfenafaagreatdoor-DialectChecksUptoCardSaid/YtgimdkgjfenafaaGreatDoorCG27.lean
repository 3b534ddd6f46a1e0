import Derived.Test.YtgimdkgjfenafaaGreatDoorCG14
import Derived.Test.YtgimdkgjfenafaaGreatDoorCG21
import Derived.Test.YtgimdkgjfenafaaGreatDoorCG25
namespace Go.Proofs.YtgimdkgjfenafaaGreatDoor
open Go.RowKit
def pureS : ByteArray := ⟨#[112, 117, 114, 101]⟩
def rightTraitsL (l : List ByteArray) : Bool := risingL l && l.all (isIn allTraitsL) && !(isIn l pureS && effectsL.any (isIn l))
set_option maxHeartbeats 8000000 in
set_option maxRecDepth 100000 in
theorem areRightTraits_any (ao : Option Addr) (l : List ByteArray) (c : Nat) (hn : l.length ≤ 9223372036854775806) (w : World) (h : StrsAt w ao l) :
  Calls Tryz.prog 131 #[.slice ao l.length c] w fun e w' => e = .returned (.bool (rightTraitsL l)) ∧ Below w.heap.size w w' := by
 have H := Lib.hid h
 have HN := Lib.hid (show l.length ≤ 9223372036854775807 by omega)
 have hni : (l.length : Int) ≤ 9223372036854775806 := by omega
 clear h hn
 go_enter Tryz.func131, Tryz.ntmps131
 go_wp2_with fail
 refine (areRisingStr_any ao l c HN.out w H.out).mono ?_
 rintro e w1 ⟨rfl, hb⟩
 have HB1 := Lib.hid hb
 clear hb
 cases hr : risingL l
 ·have HX := Lib.hid (show rightTraitsL l = false by unfold rightTraitsL; rw [hr]; rfl)
  clear hr
  go_wp2_with fail
  go_ret
  exact ⟨by rw [HX.out]; rfl, HB1.out⟩
 have HR := Lib.hid hr
 clear hr
 go_wp2_with fail
 go_loopw [10] (fun iv wr => ∃ m : Nat, m ≤ l.length ∧ iv = .int .i64 m ∧ Hid (Below w.heap.size w wr ∧ ∀ (j : Nat) (s : ByteArray), j < m → l[j]? = some s → isIn allTraitsL s = true)) (fun iv _ => l.length - (intOf iv).toNat)
 case atStart => exact ⟨0, Nat.zero_le _, rfl, HB1.out, fun j r h => absurd h (Nat.not_lt_zero _)⟩
 case round =>
  obtain ⟨m, hmm, rfl, HL⟩ := hrel
  by_cases hlt : m < l.length
  rotate_left
  ·have hge : ¬ (m : Int) < (l.length : Int) := by omega
   have HA := Lib.hid (show l.all (isIn allTraitsL) = true from List.all_eq_true.2 fun s hs => by
    obtain ⟨j, hj⟩ := List.getElem?_of_mem hs
    exact HL.out.2 j s (by have := (List.getElem?_eq_some_iff.1 hj).1; omega) hj)
   clear hlt hmm
   go_wp2_with fail
   refine (Contains_any ao l c pureS HN.out wr (H.out.below HL.out.1)).mono ?_
   rintro e w2 ⟨rfl, rfl⟩
   cases hp : isIn l pureS
   ·have HX := Lib.hid (show rightTraitsL l = true by unfold rightTraitsL; rw [HR.out, HA.out, hp]; rfl)
    clear hp
    go_wp2_with fail
    go_ret
    exact ⟨by rw [HX.out]; rfl, HL.out.1⟩
   ·have HP := Lib.hid hp
    clear hp
    go_wp2_with fail
    refine (effects_any wr).mono ?_
    rintro e w2 ⟨rfl, rfl⟩
    have HNB := Lib.hid (new_below wr (.cells (effectsL.map .string).toArray 9))
    have HS := Lib.hid (show StrsAt (wr.alloc (.cells (effectsL.map .string).toArray 9)) (some ⟨wr.heap.size, 0, none⟩) effectsL from .inr ⟨_, rfl, fun j hj => by
     rw [at_row, in_row (heap_alloc_new _ _), List.getElem?_toArray, List.getElem?_map, List.getElem?_eq_getElem hj]
     rfl⟩)
    generalize wr.alloc (.cells (effectsL.map .string).toArray 9) = W3 at HNB HS ⊢
    go_wp2_with fail
    refine (hasAny_any ao _ l effectsL c 5 HN.out (by decide) W3 ((H.out.below HL.out.1).below HNB.out) HS.out).mono ?_
    rintro e w4 ⟨rfl, rfl⟩
    have HX := Lib.hid (show rightTraitsL l = !effectsL.any (isIn l) by unfold rightTraitsL; rw [HR.out, HA.out, HP.out]; rfl)
    generalize effectsL.any (isIn l) = b at HX ⊢
    go_wp2_with fail
    go_ret
    exact ⟨by rw [HX.out]; rfl, HL.out.1.trans (HNB.out.mono HL.out.1.size)⟩
  rcases H.out with h0 | ⟨a, rfl, hc⟩
  ·rw [h0] at hlt; exact absurd hlt (Nat.not_lt_zero _)
  have hcm := (HL.out.1.cell (block_lt_of_cell (hc m hlt))).trans (hc m hlt)
  clear hc
  have hjs : l[m]? = some (l[m]?.getD ByteArray.empty) := by rw [List.getElem?_eq_getElem hlt]; rfl
  generalize l[m]?.getD ByteArray.empty = t at hcm hjs
  have HJ := Lib.hid hjs
  have HLT := Lib.hid hlt
  have hlti : (m : Int) < (l.length : Int) := by omega
  clear hlt hmm hjs
  go_wp2_with fail
  refine (allTraits_any wr).mono ?_
  rintro e w2 ⟨qo, tc, rfl, hs, -, hb⟩
  have HS := Lib.hid (strs_keeps hs above_to)
  have HB2 := Lib.hid hb
  clear hs hb hcm
  go_wp2_with fail
  refine (Contains_any qo allTraitsL tc t (by decide) w2 HS.out).mono ?_
  rintro e w3 ⟨rfl, rfl⟩
  cases hi : isIn allTraitsL t
  ·have HX := Lib.hid (show rightTraitsL l = false by
    have e : l.all (isIn allTraitsL) = false := by
     rw [List.all_eq_false]
     exact ⟨t, List.mem_of_getElem? HJ.out, by rw [hi]; decide⟩
    unfold rightTraitsL
    rw [e, Bool.and_false]
    rfl)
   clear hi
   go_wp2_with fail
   go_ret
   exact ⟨by rw [HX.out]; rfl, HL.out.1.trans (HB2.out.mono HL.out.1.size)⟩
  ·have HI := Lib.hid hi
   clear hi
   go_wp2_with fail
   go_roundw
   case rel => exact ⟨m + 1, HLT.out, by go_num, HL.out.1.trans (HB2.out.mono HL.out.1.size), fun j y hj hy => by
     rcases Nat.lt_or_ge j m with h | h
     ·exact HL.out.2 j y h hy
     ·obtain rfl : j = m := by omega
      rw [HJ.out] at hy
      cases hy
      exact HI.out⟩
   case measure => have := HLT.out; simp only [intOf]; omega
end Go.Proofs.YtgimdkgjfenafaaGreatDoor
