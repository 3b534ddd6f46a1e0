import Derived.Test.YtgimdkgjfenafaaGreatDoorG31
import Derived.Test.YtgimdkgjfenafaaGreatDoorG14
import Derived.Test.YtgimdkgjfenafaaGreatDoorG30
import Derived.Test.YtgimdkgjfenafaaGreatDoorG39
import Derived.Test.YtgimdkgjfenafaaGreatDoorMDxMA
import Derived.Test.YtgimdkgjfenafaaGreatDoorG41
import Derived.Test.YtgimdkgjfenafaaGreatDoorG45
import Derived.Test.YtgimdkgjfenafaaGreatDoorG40
namespace Go.Proofs.YtgimdkgjfenafaaGreatDoor
open Go.RowKit
structure SmallL (l : List ByteArray) : Prop where
 len : l.length ≤ 1048576
 each : ∀ s ∈ l, s.size ≤ 1048576
theorem SmallL.sizes {l : List ByteArray} (h : SmallL l) : ∀ s ∈ l, s.size ≤ 9223372036854775807 := fun s hs => by have := h.each s hs; omega
set_option maxHeartbeats 4000000 in
set_option maxRecDepth 100000 in
theorem LTypes_any (la : Option Addr) (l : List ByteArray) (lc : Nat) (hl : l.length ≤ 1048576) (hz : ∀ t ∈ l, t.size ≤ 9223372036854775807) (w : World) (hL : StrsAt w la l) :
  Calls Tryz.prog 25 #[.slice la l.length lc] w fun e w' => e = .returned (.bool (l.all isT)) ∧ Below w.heap.size w w' := by
 have HL := Lib.hid hL
 have HZ := Lib.hid hz
 have hli : (l.length : Int) ≤ 1048576 := by omega
 clear hL hz hl
 go_enter Tryz.func25, Tryz.ntmps25
 go_wp2_with fail
 go_loopw [3] (fun iv wr => ∃ m : Nat, m ≤ l.length ∧ iv = .int .i64 m ∧ Hid (Below w.heap.size w wr ∧ ∀ (j : Nat) (t : ByteArray), j < m → l[j]? = some t → isT t = true)) (fun iv _ => l.length - (intOf iv).toNat)
 case atStart => exact ⟨0, Nat.zero_le _, rfl, Below.refl _ _, fun j t h => absurd h (Nat.not_lt_zero _)⟩
 case round =>
  obtain ⟨m, hmm, rfl, HB⟩ := hrel
  by_cases hlt : m < l.length
  rotate_left
  ·have hge : ¬ (m : Int) < (l.length : Int) := by omega
   have HX := Lib.hid (show l.all isT = true from List.all_eq_true.2 fun t ht => by
    obtain ⟨j, hj⟩ := List.getElem?_of_mem ht
    exact HB.out.2 j t (by have := (List.getElem?_eq_some_iff.1 hj).1; omega) hj)
   clear hlt hmm
   go_wp2_with fail
   go_ret
   exact ⟨by rw [HX.out]; rfl, HB.out.1⟩
  have hjs := List.getElem?_eq_getElem hlt
  have hts := HZ.out _ (List.getElem_mem hlt)
  generalize l[m]'hlt = t at hjs hts
  obtain ⟨a, rfl⟩ : ∃ a, la = some a := by
   rcases HL.out with h0 | ⟨a, h, _⟩
   ·rw [h0] at hlt; exact absurd hlt (Nat.not_lt_zero _)
   ·exact ⟨a, h⟩
  have hcl := strs_at (HL.out.below HB.out.1) hjs
  have HJ := Lib.hid hjs
  have HLT := Lib.hid hlt
  have HTS := Lib.hid hts
  have hlti : (m : Int) < (l.length : Int) := by omega
  clear hjs hts hlt hmm
  go_wp2_with fail
  refine (Is_ref t HTS.out wr).mono ?_
  rintro e w2 ⟨rfl, hb⟩
  have HB2 := Lib.hid (HB.out.1.trans (hb.mono HB.out.1.size))
  clear hb hcl
  cases his : (readR t.data.toList).isSome
  ·have HX := Lib.hid (show l.all isT = false from List.all_eq_false.2 ⟨t, List.mem_of_getElem? HJ.out, by show ¬ (readR t.data.toList).isSome = true; rw [his]; decide⟩)
   clear his
   go_wp2_with fail
   go_ret
   exact ⟨by rw [HX.out]; rfl, HB2.out⟩
  ·have HX := Lib.hid (show isT t = true from his)
   clear his
   go_wp2_with fail
   go_roundw
   case rel => exact ⟨m + 1, HLT.out, by go_num, HB2.out, fun j y hj hy => by
     rcases Nat.lt_or_ge j m with h | h
     ·exact HB.out.2 j y h hy
     ·obtain rfl : j = m := by omega
      rw [HJ.out] at hy
      cases hy
      exact HX.out⟩
   case measure => have := HLT.out; simp only [intOf]; omega
end Go.Proofs.YtgimdkgjfenafaaGreatDoor
namespace Go.Proofs.YtgimdkgjfenafaaGreatDoor
open Go.ChangeShapes Go.WideShapes Go.ChangeAt Go.RowKit
set_option maxRecDepth 100000 in
theorem open_strsB {H : Type} {enc : TypeId × Value → H} {W : World} {base : Nat} {v : Value} {d : DataW H} {p : List MemPlace} (hval : Value.okWide Tryz.prog W .any base 27 v) (h : DataW.Trod enc Tryz.prog W 0 (fun _ => true) true 27 v d p) :
  ∃ (ao : Option Addr) (ss : List ByteArray) (c : Nat), v = .slice ao ss.length c ∧ ss.length ≤ c ∧ StrsAt W ao ss ∧ (Rows.uptoBulk d ≤ 1048576 → SmallL ss) := by
 obtain ⟨a0, n, c, rfl⟩ := Go.WideShapes.okWide_slice Tryz.underlying27 hval
 obtain ⟨fuel, h⟩ := h
 obtain ⟨ao, ss, c, e, h1, h2, h3⟩ := field_strsB (v := .slice a0 n c) h
 exact ⟨ao, ss, c, e, h1, h2, fun hb => ⟨(h3 hb).1, (h3 hb).2⟩⟩
end Go.Proofs.YtgimdkgjfenafaaGreatDoor
namespace Go.Proofs.YtgimdkgjfenafaaGreatDoor
open Go.RowKit
theorem matchE_bad {d : DefD} {i o : List ByteArray} (h : rightD d = false) : matchE d i o = 50 := by unfold matchE; rw [h]; rfl
theorem matchE_ty {d : DefD} {i o : List ByteArray} (h : rightD d = true) (h2 : (i.all isT && o.all isT) = false) : matchE d i o = 10 := by unfold matchE; rw [h, h2]; rfl
theorem matchE_yes {d : DefD} {i o : List ByteArray} (h : rightD d = true) (h2 : (i.all isT && o.all isT) = true) : matchE d i o = matchR d i o := by unfold matchE; rw [h, h2, match_ways (rightD_signed h)]; rfl
set_option maxHeartbeats 16000000 in
set_option maxRecDepth 100000 in
theorem DialectMatches_any (x : DEl) (hs : DefSmall x.d) (ia oa : Option Addr) (ins outs : List ByteArray) (ic oc : Nat) (h1 : SmallL ins) (h2 : SmallL outs) (w : World) (hd : DefOK w x) (hI : StrsAt w ia ins) (hO : StrsAt w oa outs) (hE : Env w) :
  Calls Tryz.prog 5 #[x.val, .slice ia ins.length ic, .slice oa outs.length oc] w fun e w' => e = .returned (.bool true) ∧ Below w.heap.size w w' := by
 obtain ⟨W1, hW1⟩ : ∃ W1, W1 = w.alloc (.cells #[.string x.d.name, .slice x.io x.d.ins.length x.ic, .slice x.oo x.d.outs.length x.oc, .slice x.no x.d.needs.length x.nc, .int .i64 x.d.regions, .int .i64 x.d.succs, .slice x.ko x.d.traits.length x.kc] 41) := ⟨_, rfl⟩
 have T0 : Hid (W1.heap[w.heap.size]? = some (.cells #[.string x.d.name, .slice x.io x.d.ins.length x.ic, .slice x.oo x.d.outs.length x.oc, .slice x.no x.d.needs.length x.nc, .int .i64 x.d.regions, .int .i64 x.d.succs, .slice x.ko x.d.traits.length x.kc] 41 (0, 0))) := by show W1.heap[_]? = _; rw [hW1]; exact heap_alloc_new _ _
 have B1 : Hid (Below w.heap.size w W1) := by show Below _ _ _; rw [hW1]; exact new_below _ _
 have HD := Lib.hid (hd.below B1.out)
 have HS := Lib.hid hs
 have HE := Lib.hid (hE.below B1.out)
 have HI := Lib.hid (hI.below B1.out)
 have HO := Lib.hid (hO.below B1.out)
 have H1 := Lib.hid h1
 have H2 := Lib.hid h2
 have HLD := Lib.hid (LDef_any x hs W1 HD.out)
 clear hd hs hE hI hO h1 h2
 unfold DEl.val at HLD ⊢
 go_enter Tryz.func5, Tryz.ntmps5
 go_upto_region 1 with fail
 rw [← hW1]
 clear hW1
 generalize hD : w.heap.size = D at T0 ⊢
 have HDE := Lib.hid hD
 clear hD
 obtain ⟨c0, c1, c2, c3, c4, c5, c6, cf⟩ := dcells7 T0.out
 go_wp2_with fail
 refine HLD.out.mono ?_
 rintro e w4 ⟨hb, y, rfl, hyd, hyo⟩
 have HT4 := Lib.hid ((hb.block _ (lt_of_block T0.out)).trans T0.out)
 have B4 := Lib.hid hb
 have HMA := Lib.hid (Match_any y (by rw [hyd]; exact HS.out.fit) ia oa ins outs ic oc H1.out.len H2.out.len (fun s h => by have := H1.out.each s h; unfold maxLen; omega) (fun s h => by have := H2.out.each s h; unfold maxLen; omega) w4 hyo (HI.out.below hb) (HO.out.below hb) (HE.out.below hb))
 rw [hyd] at HMA
 clear hb hyd hyo HLD T0 c0 c1 c2 c3 c4 c5 c6 cf
 generalize hhe : matchE x.d ins outs = he at HMA
 have HHE := Lib.hid hhe
 clear hhe
 go_wp2_with fail
 refine HMA.out.mono ?_
 rintro e w5 ⟨rfl, hb⟩
 have HT5 := Lib.hid ((hb.block _ (lt_of_block HT4.out)).trans HT4.out)
 have B5 := Lib.hid (B4.out.trans (hb.mono B4.out.size))
 clear hb HMA HT4 B4
 obtain ⟨c0, c1, c2, c3, c4, c5, c6, cf⟩ := dcells7 HT5.out
 have HRD := Lib.hid (RRightDef_any x HS.out w5 (HD.out.below B5.out))
 unfold DEl.val at HRD
 go_wp2_with fail
 refine HRD.out.mono ?_
 rintro e w6 ⟨rfl, hb⟩
 have HT6 := Lib.hid ((hb.block _ (lt_of_block HT5.out)).trans HT5.out)
 have B6 := Lib.hid (B5.out.trans (hb.mono B5.out.size))
 clear hb HRD HT5 B5 c0 c1 c2 c3 c4 c5 c6 cf
 cases hr : rightD x.d
 ·obtain rfl := HHE.out.symm.trans (matchE_bad hr)
  clear hr HHE
  go_wp2_with fail
  refine (awake5_any _ (HE.out.below B6.out)).mono ?_
  rintro e w7 ⟨rfl, hb⟩
  have B7 := Lib.hid (B6.out.trans (hb.mono B6.out.size))
  clear hb
  go_wp2_with fail
  go_ret
  exact ⟨rfl, HDE.out ▸ (B1.out.trans (B7.out.mono B1.out.size))⟩
 have HR := Lib.hid hr
 clear hr
 go_wp2_with fail
 refine (LTypes_any ia ins ic H1.out.len H1.out.sizes w6 (HI.out.below B6.out)).mono ?_
 rintro e w7 ⟨rfl, hb⟩
 have HT7 := Lib.hid ((hb.block _ (lt_of_block HT6.out)).trans HT6.out)
 have B7 := Lib.hid (B6.out.trans (hb.mono B6.out.size))
 clear hb HT6 B6
 cases ha : ins.all isT
 ·obtain rfl := HHE.out.symm.trans (matchE_ty HR.out (by rw [ha]; rfl))
  clear ha HHE
  go_wp2_with fail
  refine (awake5_any _ (HE.out.below B7.out)).mono ?_
  rintro e w8 ⟨rfl, hb⟩
  have B8 := Lib.hid (B7.out.trans (hb.mono B7.out.size))
  clear hb
  go_wp2_with fail
  go_ret
  exact ⟨rfl, HDE.out ▸ (B1.out.trans (B8.out.mono B1.out.size))⟩
 have HA := Lib.hid ha
 clear ha
 go_wp2_with fail
 refine (LTypes_any oa outs oc H2.out.len H2.out.sizes w7 (HO.out.below B7.out)).mono ?_
 rintro e w8 ⟨rfl, hb⟩
 have HT8 := Lib.hid ((hb.block _ (lt_of_block HT7.out)).trans HT7.out)
 have B8 := Lib.hid (B7.out.trans (hb.mono B7.out.size))
 clear hb HT7 B7
 cases ho : outs.all isT
 ·obtain rfl := HHE.out.symm.trans (matchE_ty HR.out (by rw [ho, Bool.and_false]))
  clear ho HHE
  go_wp2_with fail
  refine (awake5_any _ (HE.out.below B8.out)).mono ?_
  rintro e w9 ⟨rfl, hb⟩
  have B9 := Lib.hid (B8.out.trans (hb.mono B8.out.size))
  clear hb
  go_wp2_with fail
  go_ret
  exact ⟨rfl, HDE.out ▸ (B1.out.trans (B9.out.mono B1.out.size))⟩
 have HOA := Lib.hid ho
 clear ho
 obtain ⟨c0, c1, c2, c3, c4, c5, c6, cf⟩ := dcells7 HT8.out
 have HRM := Lib.hid (RMatch_any x HS.out (rightD_signed HR.out) ia oa ins outs ic oc H1.out.len H2.out.len H1.out.sizes H2.out.sizes (List.all_eq_true.1 HA.out) (List.all_eq_true.1 HOA.out) w8 (HD.out.below B8.out) (HI.out.below B8.out) (HO.out.below B8.out))
 rw [← matchE_yes HR.out (by rw [HA.out, HOA.out]; rfl), HHE.out] at HRM
 unfold DEl.val at HRM
 go_wp2_with fail
 refine HRM.out.mono ?_
 rintro e w9 ⟨rfl, hb⟩
 have B9 := Lib.hid (B8.out.trans (hb.mono B8.out.size))
 have hq : (he == he) = true := beq_self_eq_true _
 clear hb HRM HT8 B8 c0 c1 c2 c3 c4 c5 c6 cf HHE
 go_wp2_with fail
 refine (awake5_any _ (HE.out.below B9.out)).mono ?_
 rintro e w10 ⟨rfl, hb⟩
 have B10 := Lib.hid (B9.out.trans (hb.mono B9.out.size))
 clear hb
 go_wp2_with fail
 go_ret
 exact ⟨rfl, HDE.out ▸ (B1.out.trans (B10.out.mono B1.out.size))⟩
end Go.Proofs.YtgimdkgjfenafaaGreatDoor
