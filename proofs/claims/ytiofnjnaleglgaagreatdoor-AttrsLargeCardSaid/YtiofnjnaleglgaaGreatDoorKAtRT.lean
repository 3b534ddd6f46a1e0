/-
  The reference's 'Quote' by its contract.
-/
import Derived.Test.YtiofnjnaleglgaaGreatDoorKAtRQ
namespace Go.Proofs.YtiofnjnaleglgaaGreatDoor
open Go.RowKit

structure QuoS (w : World) (L : List UInt8) (ao : Option Addr) (c : Nat) (es : List UInt8) (W : World) : Prop where
  own : W.ownsRow w.heap.size 5 1 (.slice ao es.length c) es.length (es.map u8v)
  told : es = L
  below : Below w.heap.size w W
theorem QuoS.len {w : World} {t : ByteArray} {m : Nat} {ao : Option Addr} {c : Nat} {es : List UInt8} {W : World} (h : QuoS w (34 :: (t.data.toList.take m).flatMap quoteB) ao c es W) (ht : t.size ≤ 100000) : es.length ≤ 500000 := by
  rw [h.told, List.length_cons]
  have := off_le t.data.toList m
  rw [← size_eq] at this
  omega
theorem QuoS.size {w : World} {L : List UInt8} {ao : Option Addr} {c : Nat} {es : List UInt8} {W : World} (h : QuoS w L ao c es W) : w.heap.size ≤ W.heap.size := h.below.size
theorem QuoS.more {w : World} {L L' xs : List UInt8} {ao ao' : Option Addr} {c c' : Nat} {es : List UInt8} {W W' : World} (h : QuoS w L ao c es W) (hL : L' = L ++ xs) (ho : W'.ownsRow w.heap.size 5 1 (.slice ao' (es ++ xs).length c') (es ++ xs).length ((es ++ xs).map u8v)) (hb : Below w.heap.size W W') : QuoS w L' ao' c' (es ++ xs) W' :=
  ⟨ho, by rw [hL, h.told], h.below.trans hb⟩
theorem quote34 {c : UInt8} (h : c.toNat = 34) : quoteB c = [92, 34] := by
  have : c = 34 := UInt8.toNat_inj.1 h
  subst this; rfl
theorem quote92 {c : UInt8} (h : c.toNat = 92) : quoteB c = [92, 92] := by
  have : c = 92 := UInt8.toNat_inj.1 h
  subst this; rfl

set_option maxHeartbeats 4000000 in
set_option maxRecDepth 100000 in
theorem RQuote_any (t : ByteArray) (ht : t.size ≤ 100000) (w : World) :
    Calls Tryz.prog 56 #[.string t] w fun e w' => e = .returned (.string ⟨(quoteL t.data.toList).toArray⟩) ∧ Below w.heap.size w w' := by
  have O0 := Lib.hid (World.ownsRow_nil w w.heap.size 5 1)
  have Z0 := Lib.hid (Nat.le_refl w.heap.size)
  have N0 := Lib.hid (show ([] : List UInt8).length ≤ 2000000 by decide)
  go_enter Tryz.func56, Tryz.ntmps56
  go_wp2_with (at_builtin; refine wp_append_u8 (es := []) rfl _ _ rfl [34] O0.out Z0.out N0.out (by decide) rfl rfl rfl ?_; intro ao1 c1 w1 hown hbel; have OW := Lib.hid hown; have BE := Lib.hid hbel; clear hown hbel)
  have Q1 : Hid (QuoS w (34 :: (t.data.toList.take 0).flatMap quoteB) ao1 c1 [34] w1) := ⟨OW.out, rfl, BE.out⟩
  clear OW BE O0 Z0 N0
  go_loopw [3, 4] (fun o i wr => ∃ (m : Nat) (xo : Option Addr) (xc : Nat) (es : List UInt8), m ≤ t.size ∧ i = .int .i64 m ∧ o = .slice xo es.length xc ∧ Hid (QuoS w (34 :: (t.data.toList.take m).flatMap quoteB) xo xc es wr)) (fun _ i _ => t.size - (intOf i).toNat)
  case atStart => exact ⟨0, ao1, c1, [34], Nat.zero_le _, rfl, rfl, Q1⟩
  case round =>
    obtain ⟨m, xo, xc, es, hm, rfl, rfl, HQ⟩ := hrel
    have HO := Lib.hid HQ.out.own
    have HZ := Lib.hid HQ.out.size
    have HN := Lib.hid (show es.length ≤ 2000000 by have := HQ.out.len ht; omega)
    by_cases hlt : m < t.size
    · have hmi : (m : Int) < (t.size : Int) := by omega
      have hge : t.data.toList[m]? = some (t[m]'hlt) := by rw [List.getElem?_eq_getElem (by rw [← size_eq]; exact hlt)]; rfl
      have hix : ∀ w, (Instr.index 9 (.string t) (.int .i64 m)).run Tryz.prog w = .ok (.int .u8 ((t[m]'hlt).toNat : Int)) w := fun w => by
        rw [run_index_string w _ _ _ _ Tryz.underlying9]
        simp [hmi]
      generalize t[m]'hlt = c at hix hge
      have HS := Lib.hid (take_flat hge)
      clear hge
      have hc256 : c.toNat < 256 := c.toNat_lt

      by_cases h34 : c.toNat = 34
      · have k1 : (c.toNat : Int) = 34 := by omega
        have HX := Lib.hid (show quoteB c = [92, 34] from quote34 h34)
        go_wp2_with (at_builtin; refine wp_append_u8 rfl _ _ rfl [92, 34] HO.out HZ.out HN.out (Nat.le_of_ble_eq_true rfl) rfl rfl rfl ?_; intro ao2 c2 w2 hown hbel; have HO2 := Lib.hid hown; have HB2 := Lib.hid hbel; clear hown hbel)
        have Q2 : Hid (QuoS w (34 :: (t.data.toList.take (m + 1)).flatMap quoteB) ao2 c2 (es ++ [92, 34]) w2) := HQ.out.more (by rw [HS.out, HX.out]; rfl) HO2.out HB2.out
        go_roundw
        case rel => exact ⟨m + 1, ao2, c2, es ++ [92, 34], by omega, by go_num, by rw [List.length_append]; rfl, Q2⟩
        case measure => simp only [intOf]; omega
      have k1 : ¬ (c.toNat : Int) = 34 := by omega
      by_cases h92 : c.toNat = 92
      · have k2 : (c.toNat : Int) = 92 := by omega
        have HX := Lib.hid (show quoteB c = [92, 92] from quote92 h92)
        go_wp2_with (at_builtin; refine wp_append_u8 rfl _ _ rfl [92, 92] HO.out HZ.out HN.out (Nat.le_of_ble_eq_true rfl) rfl rfl rfl ?_; intro ao2 c2 w2 hown hbel; have HO2 := Lib.hid hown; have HB2 := Lib.hid hbel; clear hown hbel)
        have Q2 : Hid (QuoS w (34 :: (t.data.toList.take (m + 1)).flatMap quoteB) ao2 c2 (es ++ [92, 92]) w2) := HQ.out.more (by rw [HS.out, HX.out]; rfl) HO2.out HB2.out
        go_roundw
        case rel => exact ⟨m + 1, ao2, c2, es ++ [92, 92], by omega, by go_num, by rw [List.length_append]; rfl, Q2⟩
        case measure => simp only [intOf]; omega
      have k2 : ¬ (c.toNat : Int) = 92 := by omega
      by_cases h10 : c.toNat = 10
      · have k3 : (c.toNat : Int) = 10 := by omega
        have HX := Lib.hid (show quoteB c = [92, 110] from by unfold quoteB; rw [if_neg h34, if_neg h92, if_pos h10])
        go_wp2_with (at_builtin; refine wp_append_u8 rfl _ _ rfl [92, 110] HO.out HZ.out HN.out (Nat.le_of_ble_eq_true rfl) rfl rfl rfl ?_; intro ao2 c2 w2 hown hbel; have HO2 := Lib.hid hown; have HB2 := Lib.hid hbel; clear hown hbel)
        have Q2 : Hid (QuoS w (34 :: (t.data.toList.take (m + 1)).flatMap quoteB) ao2 c2 (es ++ [92, 110]) w2) := HQ.out.more (by rw [HS.out, HX.out]; rfl) HO2.out HB2.out
        go_roundw
        case rel => exact ⟨m + 1, ao2, c2, es ++ [92, 110], by omega, by go_num, by rw [List.length_append]; rfl, Q2⟩
        case measure => simp only [intOf]; omega
      have k3 : ¬ (c.toNat : Int) = 10 := by omega
      by_cases hhex : c.toNat < 32 ∨ 126 < c.toNat
      · have HX := Lib.hid (show quoteB c = [92, 120, hexD (c.toNat / 16), hexD (c.toNat % 16)] by unfold quoteB; rw [if_neg h34, if_neg h92, if_neg h10, if_pos hhex])
        by_cases h32 : c.toNat < 32
        · have k4 : (c.toNat : Int) < 32 := by omega
          go_wp2_with fail
          refine (RHex_any (c.toNat / 16) _ (by omega) (by omega) _).mono ?_
          rintro e w9 ⟨rfl, rfl⟩
          go_wp2_with fail
          refine (RHex_any (c.toNat % 16) _ (by omega) (by omega) _).mono ?_
          rintro e w9 ⟨rfl, rfl⟩
          unfold u8v
          go_wp2_with (at_builtin; refine wp_append_u8 rfl _ _ rfl [92, 120, hexD (c.toNat / 16), hexD (c.toNat % 16)] HO.out HZ.out HN.out (Nat.le_of_ble_eq_true rfl) rfl rfl rfl ?_; intro ao2 c2 w2 hown hbel; have HO2 := Lib.hid hown; have HB2 := Lib.hid hbel; clear hown hbel)
          have Q2 : Hid (QuoS w (34 :: (t.data.toList.take (m + 1)).flatMap quoteB) ao2 c2 (es ++ [92, 120, hexD (c.toNat / 16), hexD (c.toNat % 16)]) w2) := HQ.out.more (by rw [HS.out, HX.out]; rfl) HO2.out HB2.out
          go_roundw
          case rel => exact ⟨m + 1, ao2, c2, es ++ [92, 120, hexD (c.toNat / 16), hexD (c.toNat % 16)], by omega, by go_num, by rw [List.length_append]; rfl, Q2⟩
          case measure => simp only [intOf]; omega
        · have k4 : ¬ (c.toNat : Int) < 32 := by omega
          have k5 : 126 < (c.toNat : Int) := by omega
          go_wp2_with fail
          refine (RHex_any (c.toNat / 16) _ (by omega) (by omega) _).mono ?_
          rintro e w9 ⟨rfl, rfl⟩
          go_wp2_with fail
          refine (RHex_any (c.toNat % 16) _ (by omega) (by omega) _).mono ?_
          rintro e w9 ⟨rfl, rfl⟩
          unfold u8v
          go_wp2_with (at_builtin; refine wp_append_u8 rfl _ _ rfl [92, 120, hexD (c.toNat / 16), hexD (c.toNat % 16)] HO.out HZ.out HN.out (Nat.le_of_ble_eq_true rfl) rfl rfl rfl ?_; intro ao2 c2 w2 hown hbel; have HO2 := Lib.hid hown; have HB2 := Lib.hid hbel; clear hown hbel)
          have Q2 : Hid (QuoS w (34 :: (t.data.toList.take (m + 1)).flatMap quoteB) ao2 c2 (es ++ [92, 120, hexD (c.toNat / 16), hexD (c.toNat % 16)]) w2) := HQ.out.more (by rw [HS.out, HX.out]; rfl) HO2.out HB2.out
          go_roundw
          case rel => exact ⟨m + 1, ao2, c2, es ++ [92, 120, hexD (c.toNat / 16), hexD (c.toNat % 16)], by omega, by go_num, by rw [List.length_append]; rfl, Q2⟩
          case measure => simp only [intOf]; omega
      have k4 : ¬ (c.toNat : Int) < 32 := by omega
      have k5 : ¬ 126 < (c.toNat : Int) := by omega
      have HX := Lib.hid (show quoteB c = [c] from by unfold quoteB; rw [if_neg h34, if_neg h92, if_neg h10, if_neg hhex])
      go_wp2_with (at_builtin; refine wp_append_u8 rfl _ _ rfl [c] HO.out HZ.out HN.out (Nat.le_of_ble_eq_true rfl) rfl rfl rfl ?_; intro ao2 c2 w2 hown hbel; have HO2 := Lib.hid hown; have HB2 := Lib.hid hbel; clear hown hbel)
      have Q2 : Hid (QuoS w (34 :: (t.data.toList.take (m + 1)).flatMap quoteB) ao2 c2 (es ++ [c]) w2) := HQ.out.more (by rw [HS.out, HX.out]; rfl) HO2.out HB2.out
      go_roundw
      case rel => exact ⟨m + 1, ao2, c2, es ++ [c], by omega, by go_num, by rw [List.length_append]; rfl, Q2⟩
      case measure => simp only [intOf]; omega
    · obtain rfl : m = t.size := by omega
      have HT := Lib.hid (congrArg (fun l : List UInt8 => Ending.returned (Value.string ⟨l.toArray⟩)) (show es ++ [34] = quoteL t.data.toList by rw [HQ.out.told, size_eq, List.take_length]; rfl))
      go_wp2_with (at_builtin; refine wp_append_u8 rfl _ _ rfl [34] HO.out HZ.out HN.out (Nat.le_of_ble_eq_true rfl) rfl rfl rfl ?_; intro ao2 c2 w2 hown hbel; have hcv := own_u8 hown rfl; simp only [List.length_append, List.length_cons, List.length_nil, Nat.zero_add] at hcv; have HB2 := Lib.hid hbel; clear hown hbel)
      go_ret
      exact ⟨HT.out, HQ.out.below.trans HB2.out⟩
end Go.Proofs.YtiofnjnaleglgaaGreatDoor
