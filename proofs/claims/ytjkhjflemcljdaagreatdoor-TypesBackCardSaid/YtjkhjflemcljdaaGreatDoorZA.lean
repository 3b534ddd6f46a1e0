/-
  The law 'TypesChecks': it answers true, whatever its argument is.
-/
import Derived.Test.YtjkhjflemcljdaaGreatDoorYC
import Derived.Test.YtjkhjflemcljdaaGreatDoorR
namespace Go.Proofs.YtjkhjflemcljdaaGreatDoor
open Go.RowKit

/-- A string that is no type, or one that is, for the program and for the reference. -/
theorem agree_ty (s : ByteArray) : (readR s.data.toList = none ∧ NoTy s) ∨ ∃ (k b : Int) (r : Nat) (e0 e1 e2 : Int) (el : ByteArray), r ≤ 3 ∧ readR s.data.toList = some (k, b, [e0, e1, e2].take r, el.data.toList) ∧ Ty s k b r e0 e1 e2 el := by
  rcases agree s.data.toList with ⟨h1, h2⟩ | ⟨k, b, r, e0, e1, e2, el, hr, h1, h2, h3⟩
  · exact .inl ⟨h1, h2⟩
  · exact .inr ⟨k, b, r, e0, e1, e2, ⟨el.toArray⟩, hr, h1, h2, h3⟩
theorem number_ty {s el : ByteArray} {k b e0 e1 e2 : Int} {r : Nat} (h : Ty s k b r e0 e1 e2 el) : (numberR s.data.toList).2.2 = decide (0 < b) := by rw [← numB_numberR, desc_num h.is]
theorem bits_nonneg {s el : ByteArray} {k b e0 e1 e2 : Int} {r : Nat} (h : Ty s k b r e0 e1 e2 el) : 0 ≤ b := (desc_wf h.is).2.1.1

set_option maxHeartbeats 4000000 in
set_option maxRecDepth 100000 in
theorem TypesChecks_any (s : ByteArray) (hs : s.size ≤ 9223372036854775807) (w : World) (hE : Env w) :
    Calls Tryz.prog 3 #[.string s] w fun e w' => e = .returned (.bool true) ∧ Below w.heap.size w w' := by
  have HE := Lib.hid hE
  clear hE
  rcases agree_ty s with ⟨hn, hno⟩ | ⟨k, b, r, e0, e1, e2, el, hr3, hn, hT⟩
  · go_enter Tryz.func3, Tryz.ntmps3
    go_wp2_with fail
    refine (Read_some s hs _).mono ?_
    rintro e w1 ⟨hb, ⟨_, T, rfl⟩ | ⟨k, b, es, el, ao, c, hn2, _, rfl⟩⟩
    · have B1 := Lib.hid (hb.alloc hb.size (.cells #[.int .i64 T, .int .i64 0, .slice none 0 0, .string ⟨#[]⟩] 24))
      clear hb
      go_wp2_with fail
      refine (Check_no hno _ (HE.out.below B1.out)).mono ?_
      rintro e w2 ⟨rfl, hb2⟩
      have B2 := Lib.hid (B1.out.trans (hb2.mono B1.out.size))
      clear hb2
      go_wp2_with fail
      refine (KindOf_no hno _ (HE.out.below B2.out)).mono ?_
      rintro e w3 ⟨rfl, hb3⟩
      have B3 := Lib.hid (B2.out.trans (hb3.mono B2.out.size))
      clear hb3
      go_wp2_with fail
      refine (Bits_no hno _ (HE.out.below B3.out)).mono ?_
      rintro e w4 ⟨rfl, hb4⟩
      have B4 := Lib.hid (B3.out.trans (hb4.mono B3.out.size))
      clear hb4
      go_wp2_with fail
      refine (awake_any _ (HE.out.below B4.out)).mono ?_
      rintro e w5 ⟨rfl, hb5⟩
      have B5 := Lib.hid (B4.out.trans (hb5.mono B4.out.size))
      clear hb5
      go_wp2_with fail
      go_ret
      exact ⟨rfl, B5.out⟩
    · exact absurd (hn.symm.trans hn2) (by simp)
  · have HN := Lib.hid hn
    have hnum := Lib.hid (number_ty hT)
    have hb0 := bits_nonneg hT
    clear hn
    go_enter Tryz.func3, Tryz.ntmps3
    go_wp2_with fail
    refine (Read_some s hs _).mono ?_
    rintro e w1 ⟨hb, ⟨hn2, T, rfl⟩ | ⟨k', b', es, el', ao, c, hn2, _, rfl⟩⟩
    · exact absurd (HN.out.symm.trans hn2) (by simp)
    · have hn3 := HN.out.symm.trans hn2
      injection hn3 with hn3
      injection hn3 with ek hn3
      injection hn3 with eb _
      subst ek
      subst eb
      clear hn2
      have B1 := Lib.hid (hb.alloc hb.size (.cells #[.int .i64 k, .int .i64 b, .slice ao es.length c, .string el'] 24))
      have T1 := Lib.hid (heap_alloc_new w1 (.cells #[.int .i64 k, .int .i64 b, .slice ao es.length c, .string el'] 24))
      clear hb
      go_wp2_with fail
      refine (Check_yes hT _ (HE.out.below B1.out)).mono ?_
      rintro e w2 ⟨rfl, hb2⟩
      have B2 := Lib.hid (B1.out.trans (hb2.mono B1.out.size))
      have T2 := Lib.hid ((hb2.block w1.heap.size (lt_of_block T1.out)).trans T1.out)
      clear hb2
      go_wp2_with fail
      refine (KindOf_yes hT _ (HE.out.below B2.out)).mono ?_
      rintro e w3 ⟨rfl, hb3⟩
      have B3 := Lib.hid (B2.out.trans (hb3.mono B2.out.size))
      have T3 := Lib.hid ((hb3.block w1.heap.size (lt_of_block T2.out)).trans T2.out)
      clear hb3
      by_cases hb : 0 < b
      · go_wp2_with fail
        refine (Bits_yes hT hb _ (HE.out.below B3.out)).mono ?_
        rintro e w4 ⟨rfl, hb4⟩
        have B4 := Lib.hid (B3.out.trans (hb4.mono B3.out.size))
        have T4 := Lib.hid ((hb4.block w1.heap.size (lt_of_block T3.out)).trans T3.out)
        clear hb4
        obtain ⟨t0, t1, t2, t3, tf⟩ := cells4 T4.out
        go_wp2_with fail
        refine (IsNumber_ref s _).mono ?_
        rintro e w5 ⟨rfl, hw5⟩
        rw [hnum.out, decide_eq_true hb]
        subst hw5
        go_wp2_with fail
        refine (awake_any _ (HE.out.below B4.out)).mono ?_
        rintro e w6 ⟨rfl, hb6⟩
        have B6 := Lib.hid (B4.out.trans (hb6.mono B4.out.size))
        clear hb6
        go_wp2_with fail
        go_ret
        exact ⟨rfl, B6.out⟩
      · have hb00 : b = 0 := by omega
        go_wp2_with fail
        refine (Bits_arg hT hb00 _ (HE.out.below B3.out)).mono ?_
        rintro e w4 ⟨rfl, hb4⟩
        have B4 := Lib.hid (B3.out.trans (hb4.mono B3.out.size))
        have T4 := Lib.hid ((hb4.block w1.heap.size (lt_of_block T3.out)).trans T3.out)
        clear hb4
        obtain ⟨t0, t1, t2, t3, tf⟩ := cells4 T4.out
        go_wp2_with fail
        refine (IsNumber_ref s _).mono ?_
        rintro e w5 ⟨rfl, hw5⟩
        rw [hnum.out, decide_eq_false (by omega)]
        subst hw5
        go_wp2_with fail
        refine (awake_any _ (HE.out.below B4.out)).mono ?_
        rintro e w6 ⟨rfl, hb6⟩
        have B6 := Lib.hid (B4.out.trans (hb6.mono B4.out.size))
        clear hb6
        go_wp2_with fail
        go_ret
        exact ⟨rfl, B6.out⟩
end Go.Proofs.YtjkhjflemcljdaaGreatDoor
