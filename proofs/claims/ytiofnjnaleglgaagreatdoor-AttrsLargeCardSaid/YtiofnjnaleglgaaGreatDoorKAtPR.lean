/-
  The walk of the law 'AttrsPrints'.
-/
import Derived.Test.YtiofnjnaleglgaaGreatDoorKAtRP
import Derived.Test.YtiofnjnaleglgaaGreatDoorHAtRL
import Derived.Test.YtiofnjnaleglgaaGreatDoorG40
import Derived.Test.YtiofnjnaleglgaaGreatDoorG28
namespace Go.Proofs.YtiofnjnaleglgaaGreatDoor
open Go.RowKit

theorem lim_short {s : ByteArray} (h : s.size ≤ 262144) : limErr s = 0 ∧ limStr s = s := by
  unfold limErr limStr
  rw [if_neg (by omega), if_neg (by omega)]
  exact ⟨rfl, rfl⟩
theorem val_good {a : At} (h : rightB a = true) (hw : a.Wf) : valErr a = 0 ∧ valStr a = ⟨(valueL a).toArray⟩ := by
  have hl := value_len h hw
  have hs : (⟨(valueL a).toArray⟩ : ByteArray).size = (valueL a).length := mk_size _
  have := lim_short (s := ⟨(valueL a).toArray⟩) (by omega)
  unfold valErr valStr
  rw [h]
  exact this
theorem val_bad {a : At} (h : rightB a = false) : valErr a = 20 ∧ valStr a = ⟨#[]⟩ := by
  unfold valErr valStr
  rw [h]
  exact ⟨rfl, rfl⟩
theorem pr_bad {l : List At} (h : rightL l = false) : prErr l = 20 ∧ prStr l = ⟨#[]⟩ := by
  unfold prErr prStr
  rw [h]
  exact ⟨rfl, rfl⟩
theorem pr_long {l : List At} (h : rightL l = true) (hn : 262144 < (listL l).length) : prErr l = 2 ∧ prStr l = ⟨#[]⟩ := by
  have hs : (⟨(listL l).toArray⟩ : ByteArray).size = (listL l).length := mk_size _
  unfold prErr prStr limErr limStr
  rw [h, if_pos rfl, if_pos rfl, if_pos (by omega), if_pos (by omega)]
  exact ⟨rfl, rfl⟩
theorem pr_good {l : List At} (h : rightL l = true) (hn : ¬ 262144 < (listL l).length) : prErr l = 0 ∧ prStr l = ⟨(listL l).toArray⟩ := by
  have hs : (⟨(listL l).toArray⟩ : ByteArray).size = (listL l).length := mk_size _
  unfold prErr prStr limErr limStr
  rw [h, if_pos rfl, if_pos rfl, if_neg (by omega), if_neg (by omega)]
  exact ⟨rfl, rfl⟩
theorem self_beq (x : ByteArray) : (x.toList == x.toList) = true := by simp

set_option maxHeartbeats 4000000 in
set_option maxRecDepth 100000 in
theorem AttrsPrints_any (so : Option Addr) (l : List At) (c : Nat) (hc : l.length ≤ c) (hc63 : c ≤ 9223372036854775807) (hs : ∀ x ∈ l, Short x) (w : World) (hl : ListAt w so l) (hE : Env w) :
    Calls Tryz.prog 7 #[.slice so l.length c] w fun e w' => e = .returned (.bool true) ∧ Below w.heap.size w w' := by
  have HE := Lib.hid hE
  have HL := Lib.hid hl
  have HS := Lib.hid hs
  have HN := Lib.hid (show l.length ≤ 9223372036854775807 by omega)
  clear hE hl hs hc hc63
  go_enter Tryz.func7, Tryz.ntmps7
  go_wp2_with fail
  refine (Print_any so l c HN.out w HL.out HE.out).mono ?_
  rintro e w1 ⟨rfl, hb⟩
  have B1 := Lib.hid hb
  clear hb
  obtain ⟨PS, hPS⟩ : ∃ PS, PS = prStr l := ⟨_, rfl⟩
  obtain ⟨PE, hPE⟩ : ∃ PE, PE = prErr l := ⟨_, rfl⟩
  rw [← hPS, ← hPE]
  have HPS := Lib.hid hPS
  have HPE := Lib.hid hPE
  clear hPS hPE
  go_wp2_with fail
  refine (RRightList_any so l c HN.out HS.out w1 (HL.out.below B1.out)).mono ?_
  rintro e w2 ⟨rfl, hb⟩
  have B2 := Lib.hid (B1.out.trans (hb.mono B1.out.size))
  clear hb B1
  go_upto_if 17 with fail
  go_cut [5, 6] (fun x y w' => x = .int .i64 PE ∧ y = .string PS ∧ Hid (Below w.heap.size w w'))
  case first =>
    cases hr : rightL l with
    | false =>
      have H := Lib.hid (pr_bad hr)
      clear hr
      go_wp2_with fail
      go_meet
      exact ⟨by rw [HPE.out, H.out.1], by rw [HPS.out, H.out.2], B2.out⟩
    | true =>
      have HR := Lib.hid hr
      clear hr
      go_wp2_with fail
      refine (RPrint_any so l c HR.out w2 (HL.out.below B2.out)).mono ?_
      rintro e w3 ⟨rfl, hb⟩
      have B3 := Lib.hid (B2.out.trans (hb.mono B2.out.size))
      clear hb B2
      obtain ⟨V, hV⟩ : ∃ V : ByteArray, V = ⟨(listL l).toArray⟩ := ⟨_, rfl⟩
      have hVs : V.size = (listL l).length := by rw [hV]; exact mk_size _
      rw [← hV]
      by_cases hn : 262144 < (listL l).length
      · have hni : (262144 : Int) < (V.size : Int) := by omega
        have H := Lib.hid (pr_long HR.out hn)
        clear hn hVs hV
        go_wp2_with fail
        go_meet
        exact ⟨by rw [HPE.out, H.out.1], by rw [HPS.out, H.out.2], B3.out⟩
      · have hni : ¬ (262144 : Int) < (V.size : Int) := by omega
        have H := Lib.hid (pr_good HR.out hn)
        have HV := Lib.hid hV
        clear hn hVs hV
        go_wp2_with fail
        go_meet
        exact ⟨by rw [HPE.out, H.out.1], by rw [HPS.out, H.out.2, HV.out], B3.out⟩
  case rest =>
  obtain ⟨rfl, rfl, hb⟩ := hcut
  have B3 := Lib.hid hb
  obtain ⟨w3, rfl⟩ : ∃ w3, w3 = wc := ⟨_, rfl⟩
  clear hb B2
  have hse := self_beq PS
  go_wp2_with fail
  clear hse
  go_loopw [7] (fun i wr => ∃ q : Nat, q ≤ l.length ∧ i = .int .i64 q ∧ Hid (Below w.heap.size w wr)) (fun i _ => l.length - (intOf i).toNat)
  case atStart => exact ⟨0, Nat.zero_le _, rfl, B3.out⟩
  case round =>
    obtain ⟨q, hq, rfl, HB⟩ := hrel
    by_cases hlt : q < l.length ∧ q < 8
    · have hq1 : (q : Int) < (l.length : Int) := by omega
      have hq8 : (q : Int) < 8 := by omega
      rcases HL.out with h0 | ⟨bk, o, rfl, hc⟩
      · rw [h0] at hlt; exact absurd hlt.1 (Nat.not_lt_zero _)
      obtain ⟨ai, ci, ao, ct, hel⟩ := hc q hlt.1
      have HEL := Lib.hid hel
      have HSA := Lib.hid (HS.out (nth l q) (by rw [nth_get hlt.1]; exact List.getElem_mem hlt.1))
      have HQ := Lib.hid hlt
      clear hel hc hlt
      generalize nth l q = a at HEL HSA
      have E0 := Lib.hid (HEL.out.below HB.out)
      have c0 := E0.out.c0
      have c1 := E0.out.c1
      have c2 := E0.out.c2
      have c3 := E0.out.c3
      have c4 := E0.out.c4
      have c5 := E0.out.c5
      go_wp2_with fail
      refine (Value_any a _ ai ci ao ct wr E0.out.att (HE.out.below HB.out)).mono ?_
      rintro e w4 ⟨rfl, hb⟩
      have B4 := Lib.hid (HB.out.trans (hb.mono HB.out.size))
      have E4 := Lib.hid (E0.out.below hb)
      clear hb E0 c0 c1 c2 c3 c4 c5 HB
      have c0 := E4.out.c0
      have c1 := E4.out.c1
      have c2 := E4.out.c2
      have c3 := E4.out.c3
      have c4 := E4.out.c4
      have c5 := E4.out.c5
      obtain ⟨VS, hVS⟩ : ∃ VS, VS = valStr a := ⟨_, rfl⟩
      obtain ⟨VE, hVE⟩ : ∃ VE, VE = valErr a := ⟨_, rfl⟩
      rw [← hVS, ← hVE]
      have HVS := Lib.hid hVS
      have HVE := Lib.hid hVE
      clear hVS hVE
      go_wp2_with fail
      refine (RRight_any a _ ai ci ao ct HSA.out w4 E4.out.att).mono ?_
      rintro e w5 ⟨rfl, hb⟩
      have B5 := Lib.hid (B4.out.trans (hb.mono B4.out.size))
      have E5 := Lib.hid (E4.out.below hb)
      clear hb E4 c0 c1 c2 c3 c4 c5 B4
      cases hr : rightB a with
      | false =>
        have H := val_bad hr
        obtain rfl : VE = 20 := HVE.out.trans H.1
        obtain rfl : VS = ⟨#[]⟩ := HVS.out.trans H.2
        clear H hr HVE HVS E5
        go_wp2_with fail
        go_roundw
        case rel => exact ⟨q + 1, by have := HQ.out; omega, by go_num, B5.out⟩
        case measure => have := HQ.out; simp only [intOf]; omega
      | true =>
        have H := val_good hr E5.out.wf
        obtain rfl : VE = 0 := HVE.out.trans H.1
        have HVV := Lib.hid (HVS.out.trans H.2)
        have HR := Lib.hid hr
        clear H hr HVE HVS
        have c0 := E5.out.c0
        have c1 := E5.out.c1
        have c2 := E5.out.c2
        have c3 := E5.out.c3
        have c4 := E5.out.c4
        have c5 := E5.out.c5
        go_wp2_with fail
        refine (RValue_any a _ ai ci ao ct HR.out w5 E5.out.att).mono ?_
        rintro e w6 ⟨rfl, hb⟩
        rw [← HVV.out]
        have B6 := Lib.hid (B5.out.trans (hb.mono B5.out.size))
        have hse := self_beq VS
        clear hb E5 c0 c1 c2 c3 c4 c5 B5
        go_wp2_with fail
        go_roundw
        case rel => exact ⟨q + 1, by have := HQ.out; omega, by go_num, B6.out⟩
        case measure => have := HQ.out; simp only [intOf]; omega
    · have hend : ¬ (q : Int) < (l.length : Int) ∨ ((q : Int) < (l.length : Int) ∧ ¬ (q : Int) < 8) := by omega
      clear hlt
      rcases hend with h1 | ⟨h1, h2⟩
      · go_wp2_with fail
        refine (awake2_any _ (HE.out.below HB.out)).mono ?_
        rintro e wz ⟨rfl, hb⟩
        have BZ := Lib.hid (HB.out.trans (hb.mono HB.out.size))
        clear hb
        go_wp2_with fail
        go_ret
        exact ⟨rfl, BZ.out⟩
      · go_wp2_with fail
        refine (awake2_any _ (HE.out.below HB.out)).mono ?_
        rintro e wz ⟨rfl, hb⟩
        have BZ := Lib.hid (HB.out.trans (hb.mono HB.out.size))
        clear hb
        go_wp2_with fail
        go_ret
        exact ⟨rfl, BZ.out⟩
end Go.Proofs.YtiofnjnaleglgaaGreatDoor
