/-
  The law 'TypesNumbers': it answers true, whatever its arguments are.
-/
import Derived.Test.YtjkhjflemcljdaaGreatDoorZA
namespace Go.Proofs.YtjkhjflemcljdaaGreatDoor
open Go.RowKit

theorem int_end {q : IntKind} {x x' : Int} {w : World} (h1 : x = x') : Ending.returned (.int q x) = .returned (.int q x') ∧ w = w := ⟨by rw [h1], rfl⟩
theorem high_neg' : ∀ B : Fin 64, wrap64 (-(wrap64 (-2 ^ B.val + 1))) = 2 ^ B.val - 1 := by decide +kernel

set_option maxHeartbeats 400000 in
theorem Low_ref {B : Nat} (h0 : 0 < B) (h64 : B ≤ 64) (w : World) : Calls Tryz.prog 31 #[.int .i64 B] w fun e w' => e = .returned (.int .i64 (-2 ^ (B - 1))) ∧ w = w' := by
  go_enter Tryz.func31, Tryz.ntmps31
  go_wp2_with fail
  go_ret
  exact int_end (low_ok ⟨B - 1, by omega⟩)

set_option maxHeartbeats 400000 in
theorem High_ref {B : Nat} (h0 : 0 < B) (h64 : B ≤ 64) (w : World) : Calls Tryz.prog 32 #[.int .i64 B] w fun e w' => e = .returned (.int .i64 (2 ^ (B - 1) - 1)) ∧ w = w' := by
  go_enter Tryz.func32, Tryz.ntmps32
  go_wp2_with fail
  refine (Low_ref h0 h64 _).mono ?_
  rintro e w1 ⟨rfl, rfl⟩
  go_wp2_with fail
  go_ret
  exact int_end (high_neg' ⟨B - 1, by omega⟩)

set_option maxHeartbeats 400000 in
theorem Wrap_ref {B : Nat} (h0 : 0 < B) (h64 : B ≤ 64) (n : Int) (w : World) : Calls Tryz.prog 33 #[.int .i64 B, .int .i64 n] w fun e w' => e = .returned (.int .i64 (sw B n)) ∧ w = w' := by
  go_enter Tryz.func33, Tryz.ntmps33
  go_wp2_with fail
  go_ret
  exact int_end (wrap_shift (by omega) h0 n)

set_option maxHeartbeats 400000 in
theorem Unsigned_ref {B : Nat} (h0 : 0 < B) (h64 : B ≤ 64) (n : Int) (w : World) : Calls Tryz.prog 34 #[.int .i64 B, .int .i64 n] w fun e w' => e = .returned (.int .u64 (n % 2 ^ B)) ∧ w = w' := by
  go_enter Tryz.func34, Tryz.ntmps34
  go_wp2_with fail
  go_ret
  exact int_end (uns_shift (by omega) n)

/-- The bits of a number type by the reference. -/
theorem bits_ty {s el : ByteArray} {k b e0 e1 e2 : Int} {r : Nat} (h : Ty s k b r e0 e1 e2 el) (hb : 0 < b) : ((numberR s.data.toList).1 : Int) = b := by
  have h2 := number_ty h
  rw [decide_eq_true hb] at h2
  have hd := h.is
  cases hl : s.data.toList with
  | nil => rw [hl] at h2; exact absurd h2 (by decide)
  | cons c t =>
    rw [hl] at h2 hd
    by_cases hc : c = 105
    · subst hc
      rw [desc_i, if_pos h2] at hd
      injection hd with _ h
    · rw [number_head (by simpa using hc)] at h2
      exact absurd h2 (by decide)

set_option maxHeartbeats 4000000 in
set_option maxRecDepth 100000 in
theorem TypesNumbers_any (s : ByteArray) (hs : s.size ≤ 9223372036854775807) (n : Int) (w : World) (hE : Env w) :
    Calls Tryz.prog 6 #[.string s, .int .i64 n] w fun e w' => e = .returned (.bool true) ∧ Below w.heap.size w w' := by
  have HE := Lib.hid hE
  clear hE
  rcases agree_ty s with ⟨hn, hno⟩ | ⟨k, b, r, e0, e1, e2, el, hr3, hn, hT⟩
  · have HN := Lib.hid hn
    clear hn
    go_enter Tryz.func6, Tryz.ntmps6
    go_wp2_with fail
    refine (Range_no hno _ HE.out).mono ?_
    rintro e w1 ⟨rfl, hb1⟩
    have B1 := Lib.hid hb1
    clear hb1
    go_wp2_with fail
    refine (Wrap_no hno n _ (HE.out.below B1.out)).mono ?_
    rintro e w2 ⟨rfl, hb2⟩
    have B2 := Lib.hid (B1.out.trans (hb2.mono B1.out.size))
    clear hb2
    go_wp2_with fail
    refine (Unsigned_no hno n _ (HE.out.below B2.out)).mono ?_
    rintro e w3 ⟨rfl, hb3⟩
    have B3 := Lib.hid (B2.out.trans (hb3.mono B2.out.size))
    clear hb3
    go_wp2_with fail
    refine (Is_ref s hs _).mono ?_
    rintro e w4 ⟨rfl, hb4⟩
    rw [HN.out]
    have B4 := Lib.hid (B3.out.trans (hb4.mono B3.out.size))
    clear hb4
    go_wp2_with fail
    refine (awake_any _ (HE.out.below B4.out)).mono ?_
    rintro e w5 ⟨rfl, hb5⟩
    have B5 := Lib.hid (B4.out.trans (hb5.mono B4.out.size))
    clear hb5
    go_wp2_with fail
    go_ret
    exact ⟨rfl, B5.out⟩
  · have HN := Lib.hid hn
    have hnum := Lib.hid (number_ty hT)
    have hb0 := bits_nonneg hT
    clear hn
    by_cases hb : 0 < b
    · obtain ⟨B, rfl⟩ : ∃ B : Nat, b = B := ⟨b.toNat, by omega⟩
      have hB : 0 < B := by omega
      have h64 : B ≤ 64 := ty_bits hT
      have HBits := Lib.hid (bits_ty hT hb)
      go_enter Tryz.func6, Tryz.ntmps6
      go_wp2_with fail
      refine (Range_yes hT hB _ HE.out).mono ?_
      rintro e w1 ⟨rfl, hb1⟩
      have B1 := Lib.hid hb1
      clear hb1
      go_wp2_with fail
      refine (Wrap_yes hT hB n _ (HE.out.below B1.out)).mono ?_
      rintro e w2 ⟨rfl, hb2⟩
      have B2 := Lib.hid (B1.out.trans (hb2.mono B1.out.size))
      clear hb2
      go_wp2_with fail
      refine (Unsigned_yes hT hB n _ (HE.out.below B2.out)).mono ?_
      rintro e w3 ⟨rfl, hb3⟩
      have B3 := Lib.hid (B2.out.trans (hb3.mono B2.out.size))
      clear hb3
      go_wp2_with fail
      refine (Is_ref s hs _).mono ?_
      rintro e w4 ⟨rfl, hb4⟩
      rw [HN.out]
      have B4 := Lib.hid (B3.out.trans (hb4.mono B3.out.size))
      clear hb4
      go_wp2_with fail
      refine (IsNumber_ref s _).mono ?_
      rintro e w5 ⟨rfl, hw5⟩
      rw [hnum.out, decide_eq_true hb]
      subst hw5
      go_wp2_with fail
      refine (Bits_ref s _).mono ?_
      rintro e w5 ⟨rfl, hw5⟩
      rw [HBits.out]
      subst hw5
      go_wp2_with fail
      refine (Low_ref hB h64 _).mono ?_
      rintro e w5 ⟨rfl, rfl⟩
      go_wp2_with fail
      refine (High_ref hB h64 _).mono ?_
      rintro e w5 ⟨rfl, rfl⟩
      go_wp2_with fail
      refine (Wrap_ref hB h64 n _).mono ?_
      rintro e w5 ⟨rfl, rfl⟩
      go_wp2_with fail
      refine (Unsigned_ref hB h64 n _).mono ?_
      rintro e w5 ⟨rfl, rfl⟩
      go_wp2_with fail
      refine (awake_any _ (HE.out.below B4.out)).mono ?_
      rintro e w6 ⟨rfl, hb6⟩
      have B6 := Lib.hid (B4.out.trans (hb6.mono B4.out.size))
      clear hb6
      go_wp2_with fail
      go_ret
      exact ⟨rfl, B6.out⟩
    · obtain rfl : b = 0 := by omega
      go_enter Tryz.func6, Tryz.ntmps6
      go_wp2_with fail
      refine (Range_arg hT _ HE.out).mono ?_
      rintro e w1 ⟨rfl, hb1⟩
      have B1 := Lib.hid hb1
      clear hb1
      go_wp2_with fail
      refine (Wrap_arg hT n _ (HE.out.below B1.out)).mono ?_
      rintro e w2 ⟨rfl, hb2⟩
      have B2 := Lib.hid (B1.out.trans (hb2.mono B1.out.size))
      clear hb2
      go_wp2_with fail
      refine (Unsigned_arg hT n _ (HE.out.below B2.out)).mono ?_
      rintro e w3 ⟨rfl, hb3⟩
      have B3 := Lib.hid (B2.out.trans (hb3.mono B2.out.size))
      clear hb3
      go_wp2_with fail
      refine (Is_ref s hs _).mono ?_
      rintro e w4 ⟨rfl, hb4⟩
      rw [HN.out]
      have B4 := Lib.hid (B3.out.trans (hb4.mono B3.out.size))
      clear hb4
      go_wp2_with fail
      refine (IsNumber_ref s _).mono ?_
      rintro e w5 ⟨rfl, hw5⟩
      rw [hnum.out, decide_eq_false (by omega)]
      subst hw5
      go_wp2_with fail
      refine (awake_any _ (HE.out.below B4.out)).mono ?_
      rintro e w6 ⟨rfl, hb6⟩
      have B6 := Lib.hid (B4.out.trans (hb6.mono B4.out.size))
      clear hb6
      go_wp2_with fail
      go_ret
      exact ⟨rfl, B6.out⟩
end Go.Proofs.YtjkhjflemcljdaaGreatDoor
