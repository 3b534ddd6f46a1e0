/-
  'awake', which every law calls: it answers true in whatever world holds the library's variables.
-/
import Derived.Test.YtjkhjflemcljdaaGreatDoorO
import Derived.Test.YtjkhjflemcljdaaGreatDoorP
import Derived.Test.YtjkhjflemcljdaaGreatDoorQ
namespace Go.Proofs.YtjkhjflemcljdaaGreatDoor
open Go.RowKit

theorem ty_mk {s : ByteArray} {k b e0 e1 e2 : Int} {r : Nat} {el : ByteArray} (h : descSpec s.data.toList = ⟨k, b, r, e0, e1, e2, el.data.toList⟩) (hn : ¬ (k = 0 ∧ b = 0)) : Ty s k b r e0 e1 e2 el := ⟨h, hn⟩
theorem ty_arr : Ty ⟨#[97, 114, 114, 60, 48, 120, 105, 110, 100, 101, 120, 62]⟩ 3 0 1 0 0 0 ⟨#[105, 110, 100, 101, 120]⟩ := ty_mk (by kernel_rfl) (by omega)
theorem ty_mem : Ty ⟨#[109, 101, 109, 60, 52, 120, 51, 120, 105, 51, 50, 62]⟩ 2 0 2 4 3 0 ⟨#[105, 51, 50]⟩ := ty_mk (by kernel_rfl) (by omega)
theorem ty_i8 : Ty ⟨#[105, 56]⟩ 0 (8 : Nat) 0 0 0 0 ⟨#[]⟩ := ty_mk (by kernel_rfl) (by omega)
theorem ty_i1 : Ty ⟨#[105, 49]⟩ 0 (1 : Nat) 0 0 0 0 ⟨#[]⟩ := ty_mk (by kernel_rfl) (by omega)
theorem ty_m8 : Ty ⟨#[109, 101, 109, 60, 105, 56, 62]⟩ 2 0 0 0 0 0 ⟨#[105, 56]⟩ := ty_mk (by kernel_rfl) (by omega)
theorem ty_calc : Ty ⟨#[33, 99, 97, 108, 99, 46, 110, 117, 109]⟩ 4 0 0 0 0 0 ⟨#[]⟩ := ty_mk (by kernel_rfl) (by omega)
theorem no_i01 : NoTy ⟨#[105, 48, 49]⟩ := show descSpec [105, 48, 49] = descZero by kernel_rfl
theorem no_big : NoTy ⟨#[109, 101, 109, 60, 49, 48, 48, 120, 49, 48, 48, 120, 105, 56, 62]⟩ := show descSpec [109, 101, 109, 60, 49, 48, 48, 120, 49, 48, 48, 120, 105, 56, 62] = descZero by kernel_rfl
theorem no_gap : NoTy ⟨#[97, 114, 114, 60, 105, 56, 32, 62]⟩ := show descSpec [97, 114, 114, 60, 105, 56, 32, 62] = descZero by kernel_rfl
theorem split_in : splitInner [40, 105, 49, 44, 32, 105, 110, 100, 101, 120, 41] = some [105, 49, 44, 32, 105, 110, 100, 101, 120] := by kernel_rfl
theorem split_parts : splitParts [105, 49, 44, 32, 105, 110, 100, 101, 120] = [⟨#[105, 49]⟩, ⟨#[105, 110, 100, 101, 120]⟩] := by kernel_rfl
theorem parts_ok : partsOk [105, 49, 44, 32, 105, 110, 100, 101, 120] = true := by kernel_rfl
theorem num32 : numB [105, 51, 50] = true := by kernel_rfl
theorem make_spec : makeRest 2 2 ⟨4, by omega⟩ ⟨3, by omega⟩ ⟨0, by omega⟩ [105, 51, 50] = (0, [109, 101, 109, 60, 52, 120, 51, 120, 105, 51, 50, 62]) := by
  rw [makeRest, if_neg (by rw [num32]; simp), if_neg (by simp [prodN])]
  simp [textSpec, textHead, exts, extBytes, Lib.itoa, Lib.decDigits_one]
theorem turned_spec : textSpec 3 0 ⟨0, by omega⟩ ⟨0, by omega⟩ ⟨0, by omega⟩ [105, 56] = [97, 114, 114, 60, 105, 56, 62] := by kernel_rfl
theorem addr_zero (a : Addr) : a.add 0 = a := by unfold Addr.add; simp
theorem prod_12 : prodN 2 4 3 0 = 12 := by decide
theorem sw_200 : sw 8 200 = -56 := by decide
theorem un_56 : (-56 : Int) % 2 ^ 8 = 200 := by decide

set_option maxHeartbeats 4000000 in
set_option maxRecDepth 100000 in
theorem awake_any (w : World) (hE : Env w) :
    Calls Tryz.prog 14 #[] w fun e w' => e = .returned (.bool true) ∧ Below w.heap.size w w' := by
  have HE := Lib.hid hE
  clear hE
  go_enter Tryz.func14, Tryz.ntmps14
  go_wp2_with fail
  refine (KindOf_yes ty_arr _ HE.out).mono ?_
  rintro e w1 ⟨rfl, hb1⟩
  have B1 := Lib.hid hb1
  clear hb1
  go_wp2_with fail
  refine (Cells_yes ty_mem (.inl rfl) _ (HE.out.below B1.out)).mono ?_
  rintro e w2 ⟨rfl, hb2⟩
  have B2 := Lib.hid (B1.out.trans (hb2.mono B1.out.size))
  clear hb2
  rw [prod_12]
  go_wp2_with fail
  refine (Wrap_yes ty_i8 (by omega) _ _ (HE.out.below B2.out)).mono ?_
  rintro e w3 ⟨rfl, hb3⟩
  have B3 := Lib.hid (B2.out.trans (hb3.mono B2.out.size))
  clear hb3
  rw [sw_200]
  go_wp2_with fail
  refine (Unsigned_yes ty_i8 (by omega) _ _ (HE.out.below B3.out)).mono ?_
  rintro e w4 ⟨rfl, hb4⟩
  have B4 := Lib.hid (B3.out.trans (hb4.mono B3.out.size))
  clear hb4
  rw [un_56]
  go_wp2_with fail
  refine (Range_yes ty_i1 (by omega) _ (HE.out.below B4.out)).mono ?_
  rintro e w5 ⟨rfl, hb5⟩
  have B5 := Lib.hid (B4.out.trans (hb5.mono B4.out.size))
  clear hb5
  go_wp2_with fail
  have B6 := Lib.hid (B5.out.alloc B5.out.size (.cells #[.int .i64 4, .int .i64 3] 3))
  refine (Make_rest _ 2 (.inl rfl) (some ⟨w5.heap.size, 0, none⟩) 2 2 (by omega) ⟨4, by omega⟩ ⟨3, by omega⟩ ⟨0, by omega⟩ ?_ (by omega) (by omega) (by simp) ⟨#[105, 51, 50]⟩ (HE.out.below B6.out)).mono ?_
  · refine .inr ⟨_, rfl, fun j hj => ?_⟩
    have hb := heap_alloc_new w5 (.cells #[.int .i64 4, .int .i64 3] 3)
    rw [Addr.add_lit, cell_of_row _ _ _ _ _ _ hb]
    rcases (show j = 0 ∨ j = 1 by simp [ext3] at hj; omega) with rfl | rfl <;> rfl
  rintro e w6 ⟨he, hb6⟩
  rw [make_spec] at he
  subst he
  have B7 := Lib.hid (B6.out.trans (hb6.mono B6.out.size))
  clear hb6
  go_wp2_with fail
  refine (Split_some ⟨#[40, 105, 49, 44, 32, 105, 110, 100, 101, 120, 41]⟩ (by decide) [105, 49, 44, 32, 105, 110, 100, 101, 120] split_in _ (HE.out.below B7.out)).mono ?_
  rintro e w7 ⟨hb7, hsp⟩
  have B8 := Lib.hid (B7.out.trans (hb7.mono B7.out.size))
  clear hb7
  obtain ⟨ao, c, rfl, hst⟩ : ∃ (ao : Option Addr) (c : Nat), e = .returned (.tuple #[.slice ao 2 c, .int .i64 0]) ∧ StrsAt w7 ao [⟨#[105, 49]⟩, ⟨#[105, 110, 100, 101, 120]⟩] := by
    rcases hsp with ⟨h, _⟩ | ⟨_, h, _⟩ | ⟨_, _, ao, c, he, hs⟩
    · cases h
    · rw [parts_ok] at h; cases h
    · rw [split_parts] at he hs
      exact ⟨ao, c, he, hs⟩
  clear hsp
  obtain ⟨a, rfl, hc⟩ : ∃ a, ao = some a ∧ ∀ j, j < 2 → w7.cell? (a.add j) = some (.string (([⟨#[105, 49]⟩, ⟨#[105, 110, 100, 101, 120]⟩] : List ByteArray)[j]?.getD ByteArray.empty)) := by
    rcases hst with h | h
    · cases h
    · exact h
  have HC := Lib.hid hc
  clear hst hc
  go_wp2_with fail
  refine (Turned_2 ty_m8 (by omega) (by omega) (by omega) (by omega) (by decide) _ (HE.out.below B8.out)).mono ?_
  rintro e w8 ⟨rfl, hb8⟩
  have B9 := Lib.hid (B8.out.trans (hb8.mono B8.out.size))
  have HC8 : Hid (∀ j, j < 2 → w8.cell? (a.add j) = some (.string (([⟨#[105, 49]⟩, ⟨#[105, 110, 100, 101, 120]⟩] : List ByteArray)[j]?.getD ByteArray.empty))) := fun j hj =>
    (hb8.cell (block_lt_of_cell (HC.out j hj))).trans (HC.out j hj)
  clear hb8 HC
  rw [turned_spec]
  have k0 : w8.cell? a = some (.string ⟨#[105, 49]⟩) := by have h := HC8.out 0 (by omega); rw [addr_zero] at h; exact h
  have k1 : w8.cell? ⟨a.block, a.off + 1, none⟩ = some (.string ⟨#[105, 110, 100, 101, 120]⟩) := HC8.out 1 (by omega)
  go_wp2_with fail
  refine (Check_yes ty_calc _ (HE.out.below B9.out)).mono ?_
  rintro e v0 ⟨rfl, hb⟩
  have C0 := Lib.hid (B9.out.trans (hb.mono B9.out.size))
  clear hb
  go_wp2_with fail
  refine (Check_no no_i01 _ (HE.out.below C0.out)).mono ?_
  rintro e v1 ⟨rfl, hb⟩
  have C1 := Lib.hid (C0.out.trans (hb.mono C0.out.size))
  clear hb
  go_wp2_with fail
  refine (Check_no no_big _ (HE.out.below C1.out)).mono ?_
  rintro e v2 ⟨rfl, hb⟩
  have C2 := Lib.hid (C1.out.trans (hb.mono C1.out.size))
  clear hb
  go_wp2_with fail
  refine (Check_no no_gap _ (HE.out.below C2.out)).mono ?_
  rintro e v3 ⟨rfl, hb⟩
  have C3 := Lib.hid (C2.out.trans (hb.mono C2.out.size))
  clear hb
  go_wp2_with fail
  go_ret
  exact ⟨rfl, C3.out⟩
end Go.Proofs.YtjkhjflemcljdaaGreatDoor
