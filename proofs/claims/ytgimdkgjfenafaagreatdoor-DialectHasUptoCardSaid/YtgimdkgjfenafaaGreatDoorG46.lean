import Derived.Test.YtgimdkgjfenafaaGreatDoorG41
import Derived.Test.YtgimdkgjfenafaaGreatDoorG45
namespace Go.Proofs.YtgimdkgjfenafaaGreatDoor
open Go.RowKit
theorem hasE_bad {d : DefD} {s : ByteArray} (h : rightD d = false) : hasE d s = (false, 50) := by unfold hasE; rw [h]; rfl
theorem hasE_arg {d : DefD} {s : ByteArray} (h : rightD d = true) (h2 : isIn allTraitsL s = false) : hasE d s = (false, 1) := by unfold hasE; rw [h, h2]; rfl
theorem hasE_yes {d : DefD} {s : ByteArray} (h : rightD d = true) (h2 : isIn allTraitsL s = true) : hasE d s = (isIn d.traits s, 0) := by unfold hasE; rw [h, h2]; rfl
set_option maxHeartbeats 16000000 in
set_option maxRecDepth 100000 in
theorem DialectHas_any (x : DEl) (hs : DefSmall x.d) (s : ByteArray) (w : World) (hd : DefOK w x) (hE : Env w) : Calls Tryz.prog 8 #[x.val, .string s] w fun e w' => e = .returned (.bool true) ∧ Below w.heap.size w w' := by
 obtain ⟨W1, hW1⟩ : ∃ W1, W1 = w.alloc (.cells #[.string x.d.name, .slice x.io x.d.ins.length x.ic, .slice x.oo x.d.outs.length x.oc, .slice x.no x.d.needs.length x.nc, .int .i64 x.d.regions, .int .i64 x.d.succs, .slice x.ko x.d.traits.length x.kc] 41) := ⟨_, rfl⟩
 have T0 : Hid (W1.heap[w.heap.size]? = some (.cells #[.string x.d.name, .slice x.io x.d.ins.length x.ic, .slice x.oo x.d.outs.length x.oc, .slice x.no x.d.needs.length x.nc, .int .i64 x.d.regions, .int .i64 x.d.succs, .slice x.ko x.d.traits.length x.kc] 41 (0, 0))) := by show W1.heap[_]? = _; rw [hW1]; exact heap_alloc_new _ _
 have B1 : Hid (Below w.heap.size w W1) := by show Below _ _ _; rw [hW1]; exact new_below _ _
 have HD := Lib.hid hd
 have HS := Lib.hid hs
 have HE := Lib.hid hE
 clear hd hs hE
 unfold DEl.val
 go_enter Tryz.func8, Tryz.ntmps8
 go_upto_region 1 with fail
 rw [← hW1]
 clear hW1
 go_wp2_with fail
 go_loopw [5] (fun iv wr => ∃ (m : Nat) (z : Int), m ≤ 10 ∧ (m : Int) = z + 1 ∧ iv = .int .i64 z ∧ Hid (Below W1.heap.size W1 wr)) (fun iv _ => 10 - (intOf iv + 1).toNat)
 case atStart => exact ⟨0, -1, Nat.zero_le _, rfl, rfl, Below.refl _ _⟩
 case round =>
  obtain ⟨m, z, hm, hz, rfl, HB⟩ := hrel
  have hzu : z ≤ 9 := by omega
  have hzl : -1 ≤ z := by omega
  have HZ := Lib.hid hz
  clear hz
  go_wp2_with fail
  refine (RTraits_any wr).mono ?_
  rintro e w2 ⟨qo, qc, rfl, hs, -, hb⟩
  have HS2 := Lib.hid (strs_keeps hs above_to)
  have B2 := Lib.hid (HB.out.trans (hb.mono HB.out.size))
  clear hs hb
  by_cases hlt : m < 10
  rotate_left
  ·have hz := HZ.out
   have hml : ¬ z < (traitsL.length : Int) := by show ¬ z < (9 : Int); omega
   clear hz
   have BW := Lib.hid (B1.out.trans (B2.out.mono B1.out.size))
   clear hlt hm
   go_wp2_with fail
   refine (awake5_any _ (HE.out.below BW.out)).mono ?_
   rintro e w3 ⟨rfl, hb⟩
   have B3 := Lib.hid (BW.out.trans (hb.mono BW.out.size))
   clear hb
   go_wp2_with fail
   go_ret
   exact ⟨rfl, B3.out⟩
  have hml : z < (traitsL.length : Int) := by have := HZ.out; show z < (9 : Int); omega
  have HLT := Lib.hid hlt
  clear hm
  go_upto_if 18 with fail
  clear hml
  generalize hg : decide (0 ≤ z) = g
  have HG := Lib.hid hg
  clear hg
  go_cut [6] (fun v wx => ∃ s' : ByteArray, v = .string s' ∧ Hid (Below W1.heap.size W1 wx))
  case first =>
   cases g
   ·skip
    go_wp2_with fail
    go_meet
    exact ⟨s, rfl, B2.out⟩
   have hz0 : 0 ≤ z := of_decide_eq_true HG.out
   obtain ⟨p, rfl⟩ : ∃ p : Nat, z = (p : Int) := ⟨z.toNat, by omega⟩
   have hp9 : p < 9 := by have := HZ.out; omega
   have hp9i : (p : Int) < 9 := by omega
   clear hz0 hlt
   go_wp2_with fail
   refine (RTraits_any w2).mono ?_
   rintro e w3 ⟨ro, rc, rfl, hs, -, hb⟩
   have HS3 := Lib.hid (strs_keeps hs above_to)
   have B3 := Lib.hid (B2.out.trans (hb.mono B2.out.size))
   clear hs hb
   obtain ⟨t, ht⟩ : ∃ t, traitsL[p]? = some t := ⟨_, List.getElem?_eq_getElem (show p < traitsL.length from hp9)⟩
   obtain ⟨q, hq⟩ : ∃ q, ro = some q := by
    rcases HS3.out with h | ⟨q, h, _⟩
    ·cases h
    ·exact ⟨q, h⟩
   subst hq
   have hcc := strs_at HS3.out ht
   have hpl : (p : Int) < (traitsL.length : Int) := hp9i
   clear ht
   go_wp2_with fail
   go_meet
   exact ⟨t, rfl, B3.out⟩
  case rest =>
  obtain ⟨s', rfl, HB3⟩ := hcut
  clear B2 HS2 HB hlt
  have HT3 := Lib.hid ((HB3.out.block _ (lt_of_block T0.out)).trans T0.out)
  have BW := Lib.hid (B1.out.trans (HB3.out.mono B1.out.size))
  obtain ⟨c0, c1, c2, c3, c4, c5, c6, cf⟩ := dcells7 HT3.out
  have HLD := Lib.hid (LDef_any x HS.out _ (HD.out.below BW.out))
  unfold DEl.val at HLD
  go_wp2_with fail
  refine HLD.out.mono ?_
  rintro e w4 ⟨hb, y, rfl, hyd, hyo⟩
  have HYD := Lib.hid hyd
  have HT4 := Lib.hid ((hb.block _ (lt_of_block HT3.out)).trans HT3.out)
  have B4 := Lib.hid (HB3.out.trans (hb.mono HB3.out.size))
  have BW4 := Lib.hid (BW.out.trans (hb.mono BW.out.size))
  have HHS := Lib.hid (Has_any y (by rw [hyd]; exact HS.out.fit) s' w4 hyo (HE.out.below BW4.out))
  rw [hyd] at HHS
  clear hb hyd hyo HLD HB3 HT3 BW c0 c1 c2 c3 c4 c5 c6 cf
  generalize hhe : hasE x.d s' = he at HHS
  have HHE := Lib.hid hhe
  clear hhe
  unfold DEl.val at HHS ⊢
  go_wp2_with fail
  refine HHS.out.mono ?_
  rintro e w5 ⟨rfl, hb⟩
  have HT5 := Lib.hid ((hb.block _ (lt_of_block HT4.out)).trans HT4.out)
  have B5 := Lib.hid (B4.out.trans (hb.mono B4.out.size))
  have BW5 := Lib.hid (BW4.out.trans (hb.mono BW4.out.size))
  clear hb HHS HT4 B4 BW4
  obtain ⟨c0, c1, c2, c3, c4, c5, c6, cf⟩ := dcells7 HT5.out
  have HRD := Lib.hid (RRightDef_any x HS.out w5 (HD.out.below BW5.out))
  unfold DEl.val at HRD
  go_wp2_with fail
  refine HRD.out.mono ?_
  rintro e w6 ⟨rfl, hb⟩
  have HT6 := Lib.hid ((hb.block _ (lt_of_block HT5.out)).trans HT5.out)
  have B6 := Lib.hid (B5.out.trans (hb.mono B5.out.size))
  have BW6 := Lib.hid (BW5.out.trans (hb.mono BW5.out.size))
  clear hb HRD HT5 B5 BW5 c0 c1 c2 c3 c4 c5 c6 cf
  cases hr : rightD x.d
  ·have hq := (HHE.out.symm.trans (hasE_bad hr))
   subst hq
   clear hr HHE
   go_wp2_with fail
   go_roundw
   case rel => exact ⟨m + 1, z + 1, by have := HLT.out; omega, by have := HZ.out; omega, by go_num, B6.out⟩
   case measure => have := HLT.out; have := HZ.out; simp only [intOf]; omega
  have HR := Lib.hid hr
  clear hr
  go_wp2_with fail
  refine (RTraits_any w6).mono ?_
  rintro e w7 ⟨ro, rc, rfl, hs, -, hb⟩
  have HS7 := Lib.hid (strs_keeps hs above_to)
  have HT7 := Lib.hid ((hb.block _ (lt_of_block HT6.out)).trans HT6.out)
  have B7 := Lib.hid (B6.out.trans (hb.mono B6.out.size))
  have BW7 := Lib.hid (BW6.out.trans (hb.mono BW6.out.size))
  clear hs hb HT6 B6 BW6
  go_wp2_with fail
  refine (RHas_any ro traitsL rc s' (by decide) w7 HS7.out).mono ?_
  rintro e w8 ⟨rfl, rfl⟩
  cases hi : isIn traitsL s'
  ·have hq := (HHE.out.symm.trans (hasE_arg HR.out (by rw [← isIn_traits]; exact hi)))
   subst hq
   clear hi HHE
   go_wp2_with fail
   go_roundw
   case rel => exact ⟨m + 1, z + 1, by have := HLT.out; omega, by have := HZ.out; omega, by go_num, B7.out⟩
   case measure => have := HLT.out; have := HZ.out; simp only [intOf]; omega
  have hq := (HHE.out.symm.trans (hasE_yes HR.out (by rw [← isIn_traits]; exact hi)))
  subst hq
  clear hi HHE
  obtain ⟨c0, c1, c2, c3, c4, c5, c6, cf⟩ := dcells7 HT7.out
  go_wp2_with fail
  refine (RHas_any x.ko x.d.traits x.kc s' (by have := HS.out.lt; omega) w7 (HD.out.traits.below BW7.out)).mono ?_
  rintro e w9 ⟨rfl, rfl⟩
  clear c0 c1 c2 c3 c4 c5 c6 cf
  generalize isIn x.d.traits s' = b
  cases b
  ·skip
   go_wp2_with fail
   go_roundw
   case rel => exact ⟨m + 1, z + 1, by have := HLT.out; omega, by have := HZ.out; omega, by go_num, B7.out⟩
   case measure => have := HLT.out; have := HZ.out; simp only [intOf]; omega
  ·skip
   go_wp2_with fail
   go_roundw
   case rel => exact ⟨m + 1, z + 1, by have := HLT.out; omega, by have := HZ.out; omega, by go_num, B7.out⟩
   case measure => have := HLT.out; have := HZ.out; simp only [intOf]; omega
end Go.Proofs.YtgimdkgjfenafaaGreatDoor
