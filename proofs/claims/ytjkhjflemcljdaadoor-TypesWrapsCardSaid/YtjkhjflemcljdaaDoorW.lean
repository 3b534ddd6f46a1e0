/-
  The law 'TypesWraps': it answers true, whatever its arguments are.
-/
import Derived.Test.YtjkhjflemcljdaaDoorR
import Derived.Test.YtjkhjflemcljdaaDoorS
namespace Go.Proofs.YtjkhjflemcljdaaDoor
open Go.RowKit

/-- A number type's name. -/
def bitsName (B : Nat) : ByteArray := ⟨(105 :: Lib.decDigits B).toArray⟩

def saysBits (d : Desc) (B : Nat) : Prop := d.k = 0 ∧ d.b = B ∧ d.r = 0 ∧ d.e0 = 0 ∧ d.e1 = 0 ∧ d.e2 = 0 ∧ d.el = []
instance (d : Desc) (B : Nat) : Decidable (saysBits d B) := by unfold saysBits; infer_instance
theorem one_says : ∀ i : Fin 9, saysBits (descSpec [105, UInt8.ofNat (48 + (i.val + 1))]) (i.val + 1) := by decide +kernel
theorem two_says : ∀ i : Fin 55, saysBits (descSpec [105, UInt8.ofNat (48 + (i.val + 10) / 10), UInt8.ofNat (48 + (i.val + 10) % 10)]) (i.val + 10) := by decide +kernel
theorem ty_says {s : ByteArray} {B : Nat} (hB : 0 < B) (h : saysBits (descSpec s.data.toList) B) : Ty s 0 B 0 0 0 0 ⟨#[]⟩ := by
  refine ⟨?_, by omega⟩
  obtain ⟨a1, a2, a3, a4, a5, a6, a7⟩ := h
  generalize descSpec s.data.toList = d at *
  cases d
  simp only at *
  subst a1 a2 a3 a4 a5 a6 a7
  rfl
theorem ty_bitsName {B : Nat} (h1 : 0 < B) (h2 : B ≤ 64) : Ty (bitsName B) 0 B 0 0 0 0 ⟨#[]⟩ := by
  refine ty_says h1 ?_
  show saysBits (descSpec (105 :: Lib.decDigits B)) B
  by_cases h : B < 10
  · rw [Lib.decDigits_one h]
    have := one_says ⟨B - 1, by omega⟩
    simp only [show B - 1 + 1 = B from by omega] at this
    exact this
  · rw [Lib.decDigits_two h (by omega)]
    have := two_says ⟨B - 10, by omega⟩
    simp only [show B - 10 + 10 = B from by omega] at this
    exact this
theorem ty_index : Ty ⟨#[105, 110, 100, 101, 120]⟩ 1 (64 : Nat) 0 0 0 0 ⟨#[]⟩ := ty_mk (by kernel_rfl) (by omega)

theorem name_add (B : Nat) (hB : B ≤ 64) (w : World) : (Op.stringOp .add ⟨#[105]⟩ ⟨(Lib.decDigits B).toArray⟩).run Tryd.prog w = .ok (.string (bitsName B)) w := by
  have h20 := decDigits_short (u := B) (by omega)
  rw [add_strings _ _ (by simp [ByteArray.size]) (by simp [ByteArray.size]; omega)]
  rw [show (⟨#[105]⟩ : ByteArray) = ⟨[105].toArray⟩ from rfl, ByteArray.mk_append_mk]
  rfl
theorem bits_arg (b : Int) : ∃ B : Nat, wrap64 (1 + wrap64 ((IntKind.u64.wrap b).tmod 64)) = B ∧ 0 < B ∧ B ≤ 64 := by
  rw [IntKind.wrap_u64, Int.tmod_eq_emod_of_nonneg (by omega)]
  refine ⟨(1 + b % 18446744073709551616 % 64).toNat, ?_, by omega, by omega⟩
  unfold wrap64
  omega

/-- All that the law asks of a number type of B bits and of a number. -/
structure Asked (s : ByteArray) (B : Nat) (n lo hi wv u : Int) : Prop where
  range : ∀ w, Env w → Calls Tryd.prog 5 #[.string s] w fun e w' => e = .returned (.tuple #[.int .i64 lo, .int .i64 hi, .int .i64 0]) ∧ Below w.heap.size w w'
  wrap : ∀ w, Env w → Calls Tryd.prog 6 #[.string s, .int .i64 n] w fun e w' => e = .returned (.tuple #[.int .i64 wv, .int .i64 0]) ∧ Below w.heap.size w w'
  again : ∀ w, Env w → Calls Tryd.prog 6 #[.string s, .int .i64 wv] w fun e w' => e = .returned (.tuple #[.int .i64 wv, .int .i64 0]) ∧ Below w.heap.size w w'
  uns : ∀ w, Env w → Calls Tryd.prog 7 #[.string s, .int .i64 n] w fun e w' => e = .returned (.tuple #[.int .u64 u, .int .i64 0]) ∧ Below w.heap.size w w'
  unsw : ∀ w, Env w → Calls Tryd.prog 7 #[.string s, .int .i64 wv] w fun e w' => e = .returned (.tuple #[.int .u64 u, .int .i64 0]) ∧ Below w.heap.size w w'
  least : lo ≤ wv
  most : wv ≤ hi
  same : lo ≤ n → n ≤ hi → wv = n
  is : wv = sw B n
  any : ∀ x w, Env w → Calls Tryd.prog 6 #[.string s, .int .i64 x] w fun e w' => e = .returned (.tuple #[.int .i64 (sw B x), .int .i64 0]) ∧ Below w.heap.size w w'
  rem : u = n % 2 ^ B

theorem asked {s : ByteArray} {kk e0 e1 e2 : Int} {r : Nat} {el : ByteArray} {B : Nat} (h : Ty s kk B r e0 e1 e2 el) (h0 : 0 < B) (n : Int) : ∃ lo hi wv u, Asked s B n lo hi wv u := by
  have hs : sw B (sw B n) = sw B n := sw_sw h0 n
  have hu : sw B n % 2 ^ B = n % 2 ^ B := sw_mod n
  refine ⟨-2 ^ (B - 1), 2 ^ (B - 1) - 1, sw B n, n % 2 ^ B, ⟨fun w hE => Range_yes h h0 w hE, fun w hE => Wrap_yes h h0 n w hE, fun w hE => ?_, fun w hE => Unsigned_yes h h0 n w hE, fun w hE => ?_, (sw_range h0 n).1, (sw_range h0 n).2, fun h1 h2 => sw_id h0 h1 h2, rfl, fun x w hE => Wrap_yes h h0 x w hE, rfl⟩⟩
  · have := Wrap_yes h h0 (sw B n) w hE
    rwa [hs] at this
  · have := Unsigned_yes h h0 (sw B n) w hE
    rwa [hu] at this

theorem sw_wraps {B : Nat} (h : B ≤ 64) (n x : Int) : sw B (wrap64 (n + wrap64 x)) = sw B (n + x) := by
  rw [sw_wrap h]
  have e : wrap64 x = x + -((x + 9223372036854775808) / 18446744073709551616 * 2 ^ (64 - B)) * 2 ^ B := by
    have p := pow_full (B := B) (j := 64 - B) (by omega)
    rw [Int.neg_mul, Int.mul_assoc, Int.mul_comm (2 ^ (64 - B)), p]
    unfold wrap64
    omega
  rw [e, ← Int.add_assoc, sw_add]

theorem Asked.more {s : ByteArray} {B : Nat} {n lo hi wv u : Int} (h : Asked s B n lo hi wv u) (k : Int) (h64 : B ≤ 64) (w : World) (hE : Env w) :
    Calls Tryd.prog 6 #[.string s, .int .i64 (wrap64 (n + wrap64 (k * 2 ^ B)))] w fun e w' => e = .returned (.tuple #[.int .i64 wv, .int .i64 0]) ∧ Below w.heap.size w w' := by
  have := h.any (wrap64 (n + wrap64 (k * 2 ^ B))) w hE
  rwa [sw_wraps h64, sw_add, ← h.is] at this

theorem small_facts (n : Int) (B : Nat) (h : B < 64) : ∃ p : Int, IntKind.u64.wrap (2 ^ B) = p ∧ ¬ p = 0 ∧ n % 2 ^ B < p ∧ (IntKind.u64.wrap (n % 2 ^ B - IntKind.u64.wrap n)).tmod p = 0 := by
  have hpos := pow_pos B
  have hd := dvd_full (B := B) (by omega)
  have hlt : (2 : Int) ^ B < 18446744073709551616 := by
    rw [← pow_full (B := B) (j := 64 - B) (by omega), show 64 - B = (63 - B) + 1 by omega, Int.pow_succ]
    have := pow_pos (63 - B)
    have h2 : (2 : Int) ^ B * 2 ≤ 2 ^ B * (2 ^ (63 - B) * 2) := Int.mul_le_mul_of_nonneg_left (by omega) (by omega)
    omega
  refine ⟨2 ^ B, by rw [IntKind.wrap_u64, Int.emod_eq_of_lt (by omega) hlt], by omega, Int.emod_lt_of_pos _ hpos, ?_⟩
  rw [IntKind.wrap_u64, IntKind.wrap_u64, Int.tmod_eq_emod_of_nonneg (Int.emod_nonneg _ (by decide)), Int.emod_emod_of_dvd _ hd, Int.sub_emod, Int.emod_emod_of_dvd _ hd, Int.emod_emod_of_dvd _ (Int.dvd_refl _)]
  simp

set_option maxHeartbeats 4000000 in
set_option maxRecDepth 100000 in
theorem TypesWraps_any (b n k : Int) (w : World) (hE : Env w) :
    Calls Tryd.prog 3 #[.int .i64 b, .int .i64 n, .int .i64 k] w fun e w' => e = .returned (.bool true) ∧ Below w.heap.size w w' := by
  have HE := Lib.hid hE
  clear hE
  obtain ⟨B, hB, hB0, hB64⟩ := bits_arg b
  obtain ⟨lo, hi, wv, u, ha⟩ : ∃ lo hi wv u, (b < 0 → Asked ⟨#[105, 110, 100, 101, 120]⟩ 64 n lo hi wv u) ∧ (¬ b < 0 → Asked (bitsName B) B n lo hi wv u) := by
    by_cases hneg : b < 0
    · obtain ⟨lo, hi, wv, u, ha⟩ := asked ty_index (by omega) n
      exact ⟨lo, hi, wv, u, fun _ => ha, fun h => absurd hneg h⟩
    · obtain ⟨lo, hi, wv, u, ha⟩ := asked (ty_bitsName hB0 hB64) hB0 n
      exact ⟨lo, hi, wv, u, fun h => absurd h hneg, fun _ => ha⟩
  have HA := Lib.hid ha
  clear ha
  go_enter Tryd.func3, Tryd.ntmps3
  go_wp2_with fail
  refine (Digits_any B (by omega) _).mono ?_
  rintro e w1 ⟨rfl, rfl⟩
  have hadd := name_add B hB64
  by_cases hneg : b < 0
  · have HB := Lib.hid (HA.out.1 hneg)
    clear HA
    go_wp2_with fail
    refine (HB.out.range _ HE.out).mono ?_
    rintro e w1 ⟨rfl, hb1⟩
    have B1 := Lib.hid hb1
    clear hb1
    go_wp2_with fail
    refine (HB.out.wrap _ (HE.out.below B1.out)).mono ?_
    rintro e w2 ⟨rfl, hb2⟩
    have B2 := Lib.hid (B1.out.trans (hb2.mono B1.out.size))
    clear hb2
    go_wp2_with fail
    refine (HB.out.again _ (HE.out.below B2.out)).mono ?_
    rintro e w3 ⟨rfl, hb3⟩
    have B3 := Lib.hid (B2.out.trans (hb3.mono B2.out.size))
    clear hb3
    go_wp2_with fail
    refine (HB.out.uns _ (HE.out.below B3.out)).mono ?_
    rintro e w4 ⟨rfl, hb4⟩
    have B4 := Lib.hid (B3.out.trans (hb4.mono B3.out.size))
    clear hb4
    go_wp2_with fail
    refine (HB.out.unsw _ (HE.out.below B4.out)).mono ?_
    rintro e w5 ⟨rfl, hb5⟩
    have B5 := Lib.hid (B4.out.trans (hb5.mono B4.out.size))
    clear hb5
    have least := HB.out.least
    have most := HB.out.most
    have rem := HB.out.rem
    have hu : IntKind.u64.wrap n = u := by rw [IntKind.wrap_u64, rem]; rfl
    have same := HB.out.same
    clear rem
    by_cases h1 : lo ≤ n
    · by_cases h2 : n ≤ hi
      · have same := same h1 h2
        go_wp2_with fail
        refine (awake_any _ (HE.out.below B5.out)).mono ?_
        rintro e w6 ⟨rfl, hb6⟩
        have B6 := Lib.hid (B5.out.trans (hb6.mono B5.out.size))
        clear hb6
        go_wp2_with fail
        go_ret
        exact ⟨rfl, B6.out⟩
      · clear same
        go_wp2_with fail
        refine (awake_any _ (HE.out.below B5.out)).mono ?_
        rintro e w6 ⟨rfl, hb6⟩
        have B6 := Lib.hid (B5.out.trans (hb6.mono B5.out.size))
        clear hb6
        go_wp2_with fail
        go_ret
        exact ⟨rfl, B6.out⟩
    · clear same
      go_wp2_with fail
      refine (awake_any _ (HE.out.below B5.out)).mono ?_
      rintro e w6 ⟨rfl, hb6⟩
      have B6 := Lib.hid (B5.out.trans (hb6.mono B5.out.size))
      clear hb6
      go_wp2_with fail
      go_ret
      exact ⟨rfl, B6.out⟩
  · have HB := Lib.hid (HA.out.2 (by omega))
    clear HA
    go_wp2_with fail
    refine (HB.out.range _ HE.out).mono ?_
    rintro e w1 ⟨rfl, hb1⟩
    have B1 := Lib.hid hb1
    clear hb1
    go_wp2_with fail
    refine (HB.out.wrap _ (HE.out.below B1.out)).mono ?_
    rintro e w2 ⟨rfl, hb2⟩
    have B2 := Lib.hid (B1.out.trans (hb2.mono B1.out.size))
    clear hb2
    go_wp2_with fail
    refine (HB.out.again _ (HE.out.below B2.out)).mono ?_
    rintro e w3 ⟨rfl, hb3⟩
    have B3 := Lib.hid (B2.out.trans (hb3.mono B2.out.size))
    clear hb3
    go_wp2_with fail
    refine (HB.out.uns _ (HE.out.below B3.out)).mono ?_
    rintro e w4 ⟨rfl, hb4⟩
    have B4 := Lib.hid (B3.out.trans (hb4.mono B3.out.size))
    clear hb4
    go_wp2_with fail
    refine (HB.out.unsw _ (HE.out.below B4.out)).mono ?_
    rintro e w5 ⟨rfl, hb5⟩
    have B5 := Lib.hid (B4.out.trans (hb5.mono B4.out.size))
    clear hb5
    have least := HB.out.least
    have most := HB.out.most
    have rem := HB.out.rem
    have same := HB.out.same
    by_cases hq : (B : Int) = 64
    · have hu : IntKind.u64.wrap n = u := by rw [IntKind.wrap_u64, rem, show B = 64 by omega]; rfl
      clear rem
      by_cases h1 : lo ≤ n
      · by_cases h2 : n ≤ hi
        · have same := same h1 h2
          go_wp2_with fail
          refine (awake_any _ (HE.out.below B5.out)).mono ?_
          rintro e w6 ⟨rfl, hb6⟩
          have B6 := Lib.hid (B5.out.trans (hb6.mono B5.out.size))
          clear hb6
          go_wp2_with fail
          go_ret
          exact ⟨rfl, B6.out⟩
        · clear same
          go_wp2_with fail
          refine (awake_any _ (HE.out.below B5.out)).mono ?_
          rintro e w6 ⟨rfl, hb6⟩
          have B6 := Lib.hid (B5.out.trans (hb6.mono B5.out.size))
          clear hb6
          go_wp2_with fail
          go_ret
          exact ⟨rfl, B6.out⟩
      · clear same
        go_wp2_with fail
        refine (awake_any _ (HE.out.below B5.out)).mono ?_
        rintro e w6 ⟨rfl, hb6⟩
        have B6 := Lib.hid (B5.out.trans (hb6.mono B5.out.size))
        clear hb6
        go_wp2_with fail
        go_ret
        exact ⟨rfl, B6.out⟩
    · obtain ⟨p, hp, hp0, hup, hmod⟩ := small_facts n B (by omega)
      rw [← rem] at hup hmod
      clear rem
      by_cases h1 : lo ≤ n
      · by_cases h2 : n ≤ hi
        · have same := same h1 h2
          go_wp2_with fail
          refine (HB.out.more k hB64 _ (HE.out.below B5.out)).mono ?_
          rintro e w6 ⟨rfl, hb6⟩
          have B6 := Lib.hid (B5.out.trans (hb6.mono B5.out.size))
          clear hb6
          go_wp2_with fail
          refine (awake_any _ (HE.out.below B6.out)).mono ?_
          rintro e w7 ⟨rfl, hb7⟩
          have B7 := Lib.hid (B6.out.trans (hb7.mono B6.out.size))
          clear hb7
          go_wp2_with fail
          go_ret
          exact ⟨rfl, B7.out⟩
        · clear same
          go_wp2_with fail
          refine (HB.out.more k hB64 _ (HE.out.below B5.out)).mono ?_
          rintro e w6 ⟨rfl, hb6⟩
          have B6 := Lib.hid (B5.out.trans (hb6.mono B5.out.size))
          clear hb6
          go_wp2_with fail
          refine (awake_any _ (HE.out.below B6.out)).mono ?_
          rintro e w7 ⟨rfl, hb7⟩
          have B7 := Lib.hid (B6.out.trans (hb7.mono B6.out.size))
          clear hb7
          go_wp2_with fail
          go_ret
          exact ⟨rfl, B7.out⟩
      · clear same
        go_wp2_with fail
        refine (HB.out.more k hB64 _ (HE.out.below B5.out)).mono ?_
        rintro e w6 ⟨rfl, hb6⟩
        have B6 := Lib.hid (B5.out.trans (hb6.mono B5.out.size))
        clear hb6
        go_wp2_with fail
        refine (awake_any _ (HE.out.below B6.out)).mono ?_
        rintro e w7 ⟨rfl, hb7⟩
        have B7 := Lib.hid (B6.out.trans (hb7.mono B6.out.size))
        clear hb7
        go_wp2_with fail
        go_ret
        exact ⟨rfl, B7.out⟩
end Go.Proofs.YtjkhjflemcljdaaDoor
