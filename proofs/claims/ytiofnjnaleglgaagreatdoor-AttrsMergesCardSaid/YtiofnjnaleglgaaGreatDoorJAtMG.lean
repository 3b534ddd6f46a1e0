/-
  The walk of the law 'AttrsMerges'.
-/
import Derived.Test.YtiofnjnaleglgaaGreatDoorJAtRM
import Derived.Test.YtiofnjnaleglgaaGreatDoorHAtRL
import Derived.Test.YtiofnjnaleglgaaGreatDoorG40
import Derived.Test.YtiofnjnaleglgaaGreatDoorG30
namespace Go.Proofs.YtiofnjnaleglgaaGreatDoor
open Go.RowKit

set_option maxHeartbeats 4000000 in
set_option maxRecDepth 100000 in
theorem AttrsMerges_any (so so' : Option Addr) (l m : List At) (c c' : Nat) (hc : l.length ≤ c) (hc63 : c ≤ 9223372036854775807) (hd : m.length ≤ c') (hd63 : c' ≤ 9223372036854775807) (hs : ∀ a ∈ l, Short a) (hs' : ∀ a ∈ m, Short a) (w : World) (hl : ListAt w so l) (hm : ListAt w so' m) (hE : Env w) :
    Calls Tryz.prog 5 #[.slice so l.length c, .slice so' m.length c'] w fun e w' => e = .returned (.bool true) ∧ Below w.heap.size w w' := by
  have HE := Lib.hid hE
  have HL := Lib.hid hl
  have HM := Lib.hid hm
  have HS := Lib.hid hs
  have HS' := Lib.hid hs'
  have HC := Lib.hid hc
  have HN := Lib.hid (show l.length ≤ 9223372036854775807 by omega)
  have HN' := Lib.hid (show m.length ≤ 9223372036854775807 by omega)
  clear hE hl hm hs hs' hc hc63 hd hd63
  go_enter Tryz.func5, Tryz.ntmps5
  go_wp2_with fail
  refine (Merge_any so so' l m c c' HN.out HN'.out w HL.out HM.out HE.out).mono ?_
  rintro e w1 ⟨x, xc, rfl, hxc, hx, hb⟩
  have B1 := Lib.hid hb
  have X1 := Lib.hid hx
  clear hx hb hxc
  go_wp2_with fail
  refine (RRightList_any so l c HN.out HS.out w1 (HL.out.below B1.out)).mono ?_
  rintro e w2 ⟨rfl, hb⟩
  have B2 := Lib.hid (B1.out.trans (hb.mono B1.out.size))
  have X2 := Lib.hid (X1.out.below hb)
  clear hb B1 X1
  cases hr : rightL l with
  | false =>
    have h1 : mergeErr l m = 20 := mergeErr_bad (by rw [hr]; rfl)
    have h2 : mergeOut l m = [] := mergeOut_no (by rw [h1]; decide)
    rw [h1, h2]
    rw [h2] at X2
    clear h1 h2
    go_wp2_with fail
    refine (equalLists_same x none [] xc 0 (by decide) w2 X2.out (.inl rfl)).mono ?_
    rintro e wy ⟨rfl, hb⟩
    have BY := Lib.hid (B2.out.trans (hb.mono B2.out.size))
    clear hb
    go_wp2_with fail
    refine (awake2_any _ (HE.out.below BY.out)).mono ?_
    rintro e wz ⟨rfl, hb⟩
    have BZ := Lib.hid (BY.out.trans (hb.mono BY.out.size))
    clear hb
    go_wp2_with fail
    go_ret
    exact ⟨rfl, BZ.out⟩
  | true =>
    go_wp2_with fail
    refine (RRightList_any so' m c' HN'.out HS'.out w2 (HM.out.below B2.out)).mono ?_
    rintro e w3 ⟨rfl, hb⟩
    have B3 := Lib.hid (B2.out.trans (hb.mono B2.out.size))
    have X3 := Lib.hid (X2.out.below hb)
    clear hb B2 X2
    cases hr' : rightL m with
    | false =>
      have h1 : mergeErr l m = 20 := mergeErr_bad (by rw [hr, hr']; rfl)
      have h2 : mergeOut l m = [] := mergeOut_no (by rw [h1]; decide)
      rw [h1, h2]
      rw [h2] at X3
      clear h1 h2
      go_wp2_with fail
      refine (equalLists_same x none [] xc 0 (by decide) w3 X3.out (.inl rfl)).mono ?_
      rintro e wy ⟨rfl, hb⟩
      have BY := Lib.hid (B3.out.trans (hb.mono B3.out.size))
      clear hb
      go_wp2_with fail
      refine (awake2_any _ (HE.out.below BY.out)).mono ?_
      rintro e wz ⟨rfl, hb⟩
      have BZ := Lib.hid (BY.out.trans (hb.mono BY.out.size))
      clear hb
      go_wp2_with fail
      go_ret
      exact ⟨rfl, BZ.out⟩
    | true =>
      have hl100 : l.length ≤ 100 := ((rightL_rise l).1 hr).1
      have hm100 : m.length ≤ 100 := ((rightL_rise m).1 hr').1
      have HF := Lib.hid (foldS_merge m l ((rightL_rise m).1 hr').2.2 ((rightL_rise l).1 hr).2.2)
      have HB := Lib.hid (show (rightL l && rightL m) = true by rw [hr, hr']; rfl)
      go_wp2_with fail
      refine (RMerge_any so so' l m c c' (by omega) HC.out w3 (HL.out.below B3.out) (HM.out.below B3.out)).mono ?_
      rintro e w4 ⟨y, yc, rfl, hyc, hy, hb⟩
      have B4 := Lib.hid (B3.out.trans (hb.mono B3.out.size))
      have X4 := Lib.hid (X3.out.below hb)
      rw [HF.out] at hy ⊢
      have Y4 := Lib.hid hy
      clear hb B3 X3 hy hyc hr hr'
      by_cases hn : 100 < (mergeL l m).length
      · have hni : (100 : Int) < ((mergeL l m).length : Int) := by omega
        have h1 : mergeErr l m = 2 := mergeErr_big HB.out hn
        have h2 : mergeOut l m = [] := mergeOut_no (by rw [h1]; decide)
        rw [h1, h2]
        rw [h2] at X4
        clear h1 h2 hn
        generalize (mergeL l m).length = ml at hni ⊢
        go_wp2_with fail
        refine (equalLists_same x none [] xc 0 (by decide) w4 X4.out (.inl rfl)).mono ?_
        rintro e wy ⟨rfl, hb⟩
        have BY := Lib.hid (B4.out.trans (hb.mono B4.out.size))
        clear hb
        go_wp2_with fail
        refine (awake2_any _ (HE.out.below BY.out)).mono ?_
        rintro e wz ⟨rfl, hb⟩
        have BZ := Lib.hid (BY.out.trans (hb.mono BY.out.size))
        clear hb
        go_wp2_with fail
        go_ret
        exact ⟨rfl, BZ.out⟩
      · have hni : ¬ (100 : Int) < ((mergeL l m).length : Int) := by omega
        have h1 : mergeErr l m = 0 := mergeErr_ok HB.out hn
        have h2 : mergeOut l m = mergeL l m := mergeOut_ok h1
        rw [h1, h2]
        rw [h2] at X4
        have HLEN := Lib.hid (show (mergeL l m).length ≤ 1000000 by omega)
        clear h1 h2 hn
        generalize mergeL l m = ml at hni X4 Y4 HLEN ⊢
        go_wp2_with fail
        refine (equalLists_same x y ml xc yc (by exact HLEN.out) w4 X4.out Y4.out).mono ?_
        rintro e wy ⟨rfl, hb⟩
        have BY := Lib.hid (B4.out.trans (hb.mono B4.out.size))
        clear hb
        go_wp2_with fail
        refine (awake2_any _ (HE.out.below BY.out)).mono ?_
        rintro e wz ⟨rfl, hb⟩
        have BZ := Lib.hid (BY.out.trans (hb.mono BY.out.size))
        clear hb
        go_wp2_with fail
        go_ret
        exact ⟨rfl, BZ.out⟩
end Go.Proofs.YtiofnjnaleglgaaGreatDoor
