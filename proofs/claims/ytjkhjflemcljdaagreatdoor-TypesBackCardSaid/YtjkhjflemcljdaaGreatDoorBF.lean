/-
  The law 'TypesShapes': it answers true, whatever its argument is.
-/
import Derived.Test.YtjkhjflemcljdaaGreatDoorBC
import Derived.Test.YtjkhjflemcljdaaGreatDoorBE
import Derived.Test.YtjkhjflemcljdaaGreatDoorZA
namespace Go.Proofs.YtjkhjflemcljdaaGreatDoor
open Go.RowKit

theorem made_text {k : Int} {r : Nat} (hr : r ≤ 3) {e0 e1 e2 : Int} (h0 : 0 ≤ e0 ∧ e0 ≤ 1000) (h1 : 0 ≤ e1 ∧ e1 ≤ 1000) (h2 : 0 ≤ e2 ∧ e2 ≤ 1000) {el : List UInt8} (hn : numB el = true) (hp : prodN r e0 e1 e2 ≤ 4096) :
    makeL k ([e0, e1, e2].take r) el = (0, textSpec k r ⟨e0, h0⟩ ⟨e1, h1⟩ ⟨e2, h2⟩ el) := by
  rw [show [e0, e1, e2].take r = ext3 r ⟨e0, h0⟩ ⟨e1, h1⟩ ⟨e2, h2⟩ from rfl, ← makeL_rest k hr, makeRest, if_neg (by rw [hn]; simp), if_neg (by show ¬ 4096 < prodN r e0 e1 e2; omega)]

theorem Turned_yes {s el : ByteArray} {k b e0 e1 e2 : Int} {r : Nat} (h : Ty s k b r e0 e1 e2 el) (hk : k = 2 ∨ k = 3) (h0 : 0 ≤ e0 ∧ e0 ≤ 1000) (h1 : 0 ≤ e1 ∧ e1 ≤ 1000) (h2 : 0 ≤ e2 ∧ e2 ≤ 1000) (hr : r ≤ 3) (hel : el.size ≤ 1000000) (w : World) (hE : Env w) :
    Calls Tryz.prog 20 #[.string s] w fun e w' => e = .returned (.tuple #[.string ⟨(textSpec (5 - k) r ⟨e0, h0⟩ ⟨e1, h1⟩ ⟨e2, h2⟩ el.data.toList).toArray⟩, .int .i64 0]) ∧ Below w.heap.size w w' := by
  rcases hk with rfl | rfl
  · exact Turned_2 h h0 h1 h2 hr hel w hE
  · exact Turned_3 h h0 h1 h2 hr hel w hE
theorem numB_size {el : ByteArray} (h : numB el.data.toList = true) : el.size ≤ 1000000 := by
  have := numB_len h
  rw [size_eq]
  omega
theorem range_take {es : List Int} {e0 e1 e2 : Int} {r : Nat} (h : es = [e0, e1, e2].take r) (h0 : 0 ≤ e0 ∧ e0 ≤ 1000) (h1 : 0 ≤ e1 ∧ e1 ≤ 1000) (h2 : 0 ≤ e2 ∧ e2 ≤ 1000) : ∀ x ∈ es, 0 ≤ x ∧ x ≤ 1000 := by
  intro x hx
  rw [h] at hx
  have := List.mem_of_mem_take hx
  simp only [List.mem_cons, List.not_mem_nil, or_false] at this
  rcases this with rfl | rfl | rfl
  · exact h0
  · exact h1
  · exact h2

set_option maxHeartbeats 8000000 in
set_option maxRecDepth 100000 in
theorem TypesShapes_any (s : ByteArray) (hs : s.size ≤ 9223372036854775807) (w : World) (hE : Env w) :
    Calls Tryz.prog 4 #[.string s] w fun e w' => e = .returned (.bool true) ∧ Below w.heap.size w w' := by
  have HE := Lib.hid hE
  clear hE
  rcases agree_ty s with ⟨hn, hno⟩ | ⟨k, b, r, e0, e1, e2, el, hr3, hn, hT⟩
  · go_enter Tryz.func4, Tryz.ntmps4
    go_wp2_with fail
    refine (Read_some s hs _).mono ?_
    rintro e w1 ⟨hb, ⟨_, T, rfl⟩ | ⟨k, b, es, el, ao, c, hn2, _, rfl⟩⟩
    · have B1 := Lib.hid (hb.alloc hb.size (.cells #[.int .i64 T, .int .i64 0, .slice none 0 0, .string ⟨#[]⟩] 24))
      clear hb
      go_wp2_with fail
      refine (Shape_no hno _ (HE.out.below B1.out)).mono ?_
      rintro e w2 ⟨rfl, hb2⟩
      have B2 := Lib.hid (B1.out.trans (hb2.mono B1.out.size))
      clear hb2
      go_wp2_with fail
      refine (Cells_no hno _ (HE.out.below B2.out)).mono ?_
      rintro e w3 ⟨rfl, hb3⟩
      have B3 := Lib.hid (B2.out.trans (hb3.mono B2.out.size))
      clear hb3
      go_wp2_with fail
      refine (Rank_no hno _ (HE.out.below B3.out)).mono ?_
      rintro e w4 ⟨rfl, hb4⟩
      have B4 := Lib.hid (B3.out.trans (hb4.mono B3.out.size))
      clear hb4
      go_wp2_with fail
      refine (Element_no hno _ (HE.out.below B4.out)).mono ?_
      rintro e w5 ⟨rfl, hb5⟩
      have B5 := Lib.hid (B4.out.trans (hb5.mono B4.out.size))
      clear hb5
      go_wp2_with fail
      refine (Turned_no hno _ (HE.out.below B5.out)).mono ?_
      rintro e w6 ⟨rfl, hb6⟩
      have B6 := Lib.hid (B5.out.trans (hb6.mono B5.out.size))
      clear hb6
      go_wp2_with fail
      refine (awake_any _ (HE.out.below B6.out)).mono ?_
      rintro e w7 ⟨rfl, hb7⟩
      have B7 := Lib.hid (B6.out.trans (hb7.mono B6.out.size))
      clear hb7
      go_wp2_with fail
      go_ret
      exact ⟨rfl, B7.out⟩
    · exact absurd (hn.symm.trans hn2) (by simp)
  · have HN := Lib.hid hn
    clear hn
    obtain ⟨es, hes⟩ : ∃ es, es = [e0, e1, e2].take r := ⟨_, rfl⟩
    have hlen : es.length = r := by rw [hes]; simp; omega
    have hnn := Lib.hid (HN.out.trans (by rw [← hes]))
    have HES := Lib.hid hes
    have wf := Lib.hid (desc_wf hT.is)
    clear hes
    subst hlen
    go_enter Tryz.func4, Tryz.ntmps4
    go_wp2_with fail
    refine (Read_some s hs _).mono ?_
    rintro e w1 ⟨hb, ⟨hn2, T, rfl⟩ | ⟨k', b', es', el', ao, c, hn2, hi, rfl⟩⟩
    · exact absurd (HN.out.symm.trans hn2) (by simp)
    · have hn3 := hnn.out.symm.trans hn2
      injection hn3 with hn3
      injection hn3 with ek hn3
      injection hn3 with eb hn3
      injection hn3 with ees eel
      obtain rfl : el = el' := by apply ByteArray.ext; exact Array.ext' eel
      subst ek
      subst eb
      subst ees
      clear hn2 eel
      have B1 := Lib.hid (hb.alloc hb.size (.cells #[.int .i64 k, .int .i64 b, .slice ao es.length c, .string el] 24))
      have T1 := Lib.hid (heap_alloc_new w1 (.cells #[.int .i64 k, .int .i64 b, .slice ao es.length c, .string el] 24))
      have I1 := Lib.hid (hi.below ((Below.refl w1.heap.size w1).alloc (Nat.le_refl _) (.cells #[.int .i64 k, .int .i64 b, .slice ao es.length c, .string el] 24)))
      clear hb hi
      by_cases hk : k = 2 ∨ k = 3
      · have HK := Lib.hid hk
        have hk2 : 2 ≤ k ∧ k ≤ 3 := by omega
        obtain ⟨hk2, hk3⟩ := hk2
        clear hk
        have hbit : (k == 2 || k == 3) = true := by rcases HK.out with h | h <;> rw [h] <;> rfl
        have HBIT := Lib.hid hbit
        clear hbit
        have HR := Lib.hid (range_take HES.out wf.out.2.2.2.1 wf.out.2.2.2.2.1 wf.out.2.2.2.2.2.1)
        have HP := Lib.hid (show prodN es.length e0 e1 e2 = prodL es by rw [← prodL_take hr3, ← HES.out])
        have HM := Lib.hid (show makeL (5 - k) es el.data.toList = (0, textSpec (5 - k) es.length ⟨e0, wf.out.2.2.2.1⟩ ⟨e1, wf.out.2.2.2.2.1⟩ ⟨e2, wf.out.2.2.2.2.2.1⟩ el.data.toList) by
          have h := made_text (k := 5 - k) hr3 wf.out.2.2.2.1 wf.out.2.2.2.2.1 wf.out.2.2.2.2.2.1 (wf.out.2.2.2.2.2.2.1 HK.out).2.2 (wf.out.2.2.2.2.2.2.1 HK.out).2.1
          rw [← HES.out] at h
          exact h)
        go_wp2_with fail
        refine (Shape_yes hT HK.out hr3 wf.out.2.2.2.1 wf.out.2.2.2.2.1 wf.out.2.2.2.2.2.1 _ (HE.out.below B1.out)).mono ?_
        rintro e w2 ⟨ao2, c2, rfl, hi2, hb2⟩
        rw [← HES.out] at hi2
        have X2 := Lib.hid hi2
        clear hi2
        have B2 := Lib.hid (B1.out.trans (hb2.mono B1.out.size))
        have T2 := Lib.hid ((hb2.block w1.heap.size (lt_of_block T1.out)).trans T1.out)
        have I2 := Lib.hid (I1.out.below hb2)
        clear hb2
        go_wp2_with fail
        refine (Cells_yes hT HK.out _ (HE.out.below B2.out)).mono ?_
        rintro e w3 ⟨he, hb3⟩
        rw [HP.out] at he
        subst he
        have B3 := Lib.hid (B2.out.trans (hb3.mono B2.out.size))
        have T3 := Lib.hid ((hb3.block w1.heap.size (lt_of_block T2.out)).trans T2.out)
        have I3 := Lib.hid (I2.out.below hb3)
        have X3 := Lib.hid (X2.out.below hb3)
        clear hb3
        go_wp2_with fail
        refine (Rank_yes hT HK.out _ (HE.out.below B3.out)).mono ?_
        rintro e w4 ⟨rfl, hb4⟩
        have B4 := Lib.hid (B3.out.trans (hb4.mono B3.out.size))
        have T4 := Lib.hid ((hb4.block w1.heap.size (lt_of_block T3.out)).trans T3.out)
        have I4 := Lib.hid (I3.out.below hb4)
        have X4 := Lib.hid (X3.out.below hb4)
        clear hb4
        go_wp2_with fail
        refine (Element_yes hT HK.out _ (HE.out.below B4.out)).mono ?_
        rintro e w5 ⟨rfl, hb5⟩
        have B5 := Lib.hid (B4.out.trans (hb5.mono B4.out.size))
        have T5 := Lib.hid ((hb5.block w1.heap.size (lt_of_block T4.out)).trans T4.out)
        have I5 := Lib.hid (I4.out.below hb5)
        have X5 := Lib.hid (X4.out.below hb5)
        clear hb5
        go_wp2_with fail
        refine (Turned_yes hT HK.out wf.out.2.2.2.1 wf.out.2.2.2.2.1 wf.out.2.2.2.2.2.1 hr3 (numB_size (wf.out.2.2.2.2.2.2.1 HK.out).2.2) _ (HE.out.below B5.out)).mono ?_
        rintro e w6 ⟨rfl, hb6⟩
        have B6 := Lib.hid (B5.out.trans (hb6.mono B5.out.size))
        have T6 := Lib.hid ((hb6.block w1.heap.size (lt_of_block T5.out)).trans T5.out)
        have I6 := Lib.hid (I5.out.below hb6)
        have X6 := Lib.hid (X5.out.below hb6)
        clear hb6
        obtain ⟨t0, t1, t2, t3, tf⟩ := cells4 T6.out
        go_wp2_with fail
        refine (Shaped_ref k b ao es.length c el _).mono ?_
        rintro e w7 ⟨rfl, hb7⟩
        rw [HBIT.out]
        clear t0 t1 t2 t3 tf
        have B7 := Lib.hid (B6.out.trans (hb7.mono B6.out.size))
        have T7 := Lib.hid ((hb7.block w1.heap.size (lt_of_block T6.out)).trans T6.out)
        have I7 := Lib.hid (I6.out.below hb7)
        have X7 := Lib.hid (X6.out.below hb7)
        clear hb7
        obtain ⟨t0, t1, t2, t3, tf⟩ := cells4 T7.out
        go_wp2_with fail
        refine (MakeR_rest (5 - k) (by omega) ao es c hr3 HR.out el _ I7.out).mono ?_
        rintro e w8 ⟨he, hb8⟩
        rw [HM.out] at he
        subst he
        clear t0 t1 t2 t3 tf
        have B8 := Lib.hid (B7.out.trans (hb8.mono B7.out.size))
        have T8 := Lib.hid ((hb8.block w1.heap.size (lt_of_block T7.out)).trans T7.out)
        have I8 := Lib.hid (I7.out.below hb8)
        have X8 := Lib.hid (X7.out.below hb8)
        clear hb8
        obtain ⟨t0, t1, t2, t3, tf⟩ := cells4 T8.out
        go_wp2_with fail
        refine (same_yes ao2 ao es c2 c (by omega) _ X8.out I8.out).mono ?_
        rintro e w9 ⟨rfl, hb9⟩
        clear t0 t1 t2 t3 tf
        have B9 := Lib.hid (B8.out.trans (hb9.mono B8.out.size))
        have T9 := Lib.hid ((hb9.block w1.heap.size (lt_of_block T8.out)).trans T8.out)
        have I9 := Lib.hid (I8.out.below hb9)
        clear hb9
        obtain ⟨t0, t1, t2, t3, tf⟩ := cells4 T9.out
        go_wp2_with fail
        refine (CellsT_ref k b ao es c el hr3 HR.out _ I9.out).mono ?_
        rintro e w10 ⟨rfl, hb10⟩
        clear t0 t1 t2 t3 tf
        have B10 := Lib.hid (B9.out.trans (hb10.mono B9.out.size))
        have T10 := Lib.hid ((hb10.block w1.heap.size (lt_of_block T9.out)).trans T9.out)
        clear hb10
        obtain ⟨t0, t1, t2, t3, tf⟩ := cells4 T10.out
        go_wp2_with fail
        refine (awake_any _ (HE.out.below B10.out)).mono ?_
        rintro e w11 ⟨rfl, hb11⟩
        have B11 := Lib.hid (B10.out.trans (hb11.mono B10.out.size))
        clear hb11
        go_wp2_with fail
        go_ret
        exact ⟨rfl, B11.out⟩
      · have hk0 : (k == 2 || k == 3) = false := by simpa using hk
        go_wp2_with fail
        refine (Shape_arg hT hk _ (HE.out.below B1.out)).mono ?_
        rintro e w2 ⟨rfl, hb2⟩
        have B2 := Lib.hid (B1.out.trans (hb2.mono B1.out.size))
        have T2 := Lib.hid ((hb2.block w1.heap.size (lt_of_block T1.out)).trans T1.out)
        clear hb2
        go_wp2_with fail
        refine (Cells_arg hT hk _ (HE.out.below B2.out)).mono ?_
        rintro e w3 ⟨rfl, hb3⟩
        have B3 := Lib.hid (B2.out.trans (hb3.mono B2.out.size))
        have T3 := Lib.hid ((hb3.block w1.heap.size (lt_of_block T2.out)).trans T2.out)
        clear hb3
        go_wp2_with fail
        refine (Rank_arg hT hk _ (HE.out.below B3.out)).mono ?_
        rintro e w4 ⟨rfl, hb4⟩
        have B4 := Lib.hid (B3.out.trans (hb4.mono B3.out.size))
        have T4 := Lib.hid ((hb4.block w1.heap.size (lt_of_block T3.out)).trans T3.out)
        clear hb4
        go_wp2_with fail
        refine (Element_arg hT hk _ (HE.out.below B4.out)).mono ?_
        rintro e w5 ⟨rfl, hb5⟩
        have B5 := Lib.hid (B4.out.trans (hb5.mono B4.out.size))
        have T5 := Lib.hid ((hb5.block w1.heap.size (lt_of_block T4.out)).trans T4.out)
        clear hb5
        go_wp2_with fail
        refine (Turned_arg hT hk _ (HE.out.below B5.out)).mono ?_
        rintro e w6 ⟨rfl, hb6⟩
        have B6 := Lib.hid (B5.out.trans (hb6.mono B5.out.size))
        have T6 := Lib.hid ((hb6.block w1.heap.size (lt_of_block T5.out)).trans T5.out)
        clear hb6
        obtain ⟨t0, t1, t2, t3, tf⟩ := cells4 T6.out
        go_wp2_with fail
        refine (Shaped_ref k b ao es.length c el _).mono ?_
        rintro e w7 ⟨rfl, hb7⟩
        have B7 := Lib.hid (B6.out.trans (hb7.mono B6.out.size))
        clear hb7
        rw [hk0]
        go_wp2_with fail
        refine (awake_any _ (HE.out.below B7.out)).mono ?_
        rintro e w8 ⟨rfl, hb8⟩
        have B8 := Lib.hid (B7.out.trans (hb8.mono B7.out.size))
        clear hb8
        go_wp2_with fail
        go_ret
        exact ⟨rfl, B8.out⟩
end Go.Proofs.YtjkhjflemcljdaaGreatDoor
