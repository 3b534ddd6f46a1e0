/-
  Texts of mine in one file: AtW, AtY, AtZ, AtZB, AtZC, AtZD, AtZE.
-/
import Derived.Test.YtiofnjnaleglgaaGreatDoorG23
import Derived.Test.YtiofnjnaleglgaaGreatDoorG26
import Derived.Test.YtiofnjnaleglgaaGreatDoorG25
import Derived.Test.YtiofnjnaleglgaaGreatDoorG10
import Derived.Test.YtiofnjnaleglgaaGreatDoorG15
import Derived.OwnWalk
import Derived.Lib.ParseIntBCases
import Derived.Lib.ItoaLen
import Derived.BigRegion
import Derived.RegionTactic
import Derived.ChangeAlike
import Derived.Maps.AppendAt
/-
  The strings of values, method by method.
-/
namespace Go.Proofs.YtiofnjnaleglgaaGreatDoor
open Go.RowKit

/-! ### A numeral is read back -/
theorem uintM_digits (M : Nat) (hM : M ≤ 18446744073709551615) : ∀ (l : List UInt8) (acc : Nat), l.all bDigit = true → dvalFrom acc l ≤ M → Lib.parseUintM M acc l = .ok (dvalFrom acc l)
  | [], acc, _, _ => rfl
  | c :: r, acc, h, hle => by
    rw [List.all_cons, Bool.and_eq_true] at h
    have hd := (digit_iff c).1 h.1
    rw [dval_cons] at hle ⊢
    have h1 := dval_le r (10 * acc + (c.toNat - 48))
    have ih := uintM_digits M hM r (10 * acc + (c.toNat - 48)) h.2 hle
    unfold Lib.parseUintM
    rw [if_pos (by omega), if_neg (by omega), if_neg (by omega), show acc * 10 + (c.toNat - 48) = 10 * acc + (c.toNat - 48) by omega]
    exact ih
theorem dec_ne (n : Nat) : ∃ c t, Lib.decDigits n = c :: t ∧ bDigit c = true := by
  have hd := dec_all n
  cases hc : Lib.decDigits n with
  | nil =>
    have h1 := Lib.decDigits_length n
    have h2 := Lib.nDigits_pos n
    rw [hc, List.length_nil] at h1
    omega
  | cons c t =>
    rw [hc, List.all_cons, Bool.and_eq_true] at hd
    exact ⟨c, t, rfl, hd.1⟩
theorem uintB_dec {n : Nat} (h : n ≤ 18446744073709551615) : Lib.parseUintB 64 (Lib.decDigits n) = .ok n := by
  obtain ⟨c, t, hc, _⟩ := dec_ne n
  unfold Lib.parseUintB
  rw [if_neg (by rw [hc]; simp), uintM_digits _ (by decide) _ _ (dec_all n) (by rw [dec_val]; exact h), dec_val]
theorem int_back {z : Int} (h : i64 z) : Lib.parseIntB 64 (Lib.itoa z) = .ok z := by
  unfold Lib.itoa
  by_cases hz : z < 0
  · rw [if_pos hz]
    unfold Lib.parseIntB
    have e : (45 : UInt8).toNat = 45 := by decide
    simp only [e, if_true, or_true]
    rw [uintB_dec (by omega)]
    have h1 : ¬ (2 ^ (64 - 1) < z.natAbs) := by have : (2 : Nat) ^ (64 - 1) = 9223372036854775808 := by decide
                                                omega
    simp [h1]
    omega
  · rw [if_neg hz]
    obtain ⟨c, t, hc, hd⟩ := dec_ne z.toNat
    have hd' := (digit_iff c).1 hd
    have hu := uintB_dec (n := z.toNat) (by omega)
    rw [hc] at hu ⊢
    unfold Lib.parseIntB
    have h43 : ¬ (c.toNat = 43 ∨ c.toNat = 45) := by omega
    have h45 : ¬ c.toNat = 45 := by omega
    have h1 : ¬ (2 ^ (64 - 1) ≤ z.toNat) := by have : (2 : Nat) ^ (64 - 1) = 9223372036854775808 := by decide
                                               omega
    simp only [if_neg h43, hu]
    simp [h45, h1]
    omega

theorem fmt_any (x : Int) (hx : i64 x) (w : World) (hE : Env w) :
    Calls Tryz.prog 118 #[.int .i64 x, .int .i64 10] w fun e w' => e = .returned (.string ⟨(Lib.itoa x).toArray⟩) ∧ Below w.heap.size w w' :=
  (Tryz.strconv_FormatInt_10 x hx.1 hx.2 w hE.pow).mono fun _ w' ⟨he, k, os, hw⟩ => ⟨he, by subst hw; exact (grow_keeps w k os).1⟩

section
variable (nm : ByteArray) (k z : Int) (t : ByteArray) (ai : Option Addr) (n ci : Nat) (ao : Option Addr) (m ct : Nat) (w : World)

set_option maxHeartbeats 400000 in
set_option maxRecDepth 100000 in
theorem writeInt_any (hz : i64 z) (hE : Env w) : Calls Tryz.prog 93 #[.agg #[.string nm, .int .i64 k, .int .i64 z, .string t, .slice ai n ci, .slice ao m ct]] w
    fun e w' => e = .returned (.string ⟨(Lib.itoa z).toArray⟩) ∧ Below w.heap.size w w' := by
  have HE := Lib.hid hE
  clear hE
  go_enter Tryz.func93, Tryz.ntmps93
  go_wp2_with fail
  refine (fmt_any z hz _ (HE.out.below (alloc_below _ _))).mono ?_
  rintro e w1 ⟨rfl, hb⟩
  have B1 := Lib.hid ((alloc_below _ _).trans (hb.mono (by simp)))
  clear hb
  go_wp2_with fail
  go_ret
  exact ⟨rfl, B1.out⟩

set_option maxHeartbeats 400000 in
set_option maxRecDepth 100000 in
theorem writeText_any (ht : t.size ≤ 1000000) : Calls Tryz.prog 96 #[.agg #[.string nm, .int .i64 k, .int .i64 z, .string t, .slice ai n ci, .slice ao m ct]] w
    fun e w' => e = .returned (.string ⟨(quoteL t.data.toList).toArray⟩) ∧ Below w.heap.size w w' := by
  go_enter Tryz.func96, Tryz.ntmps96
  go_wp2_with fail
  refine (quoted_any t ht _).mono ?_
  rintro e w1 ⟨rfl, hb⟩
  have B1 := Lib.hid ((alloc_below _ _).trans (hb.mono (by simp)))
  clear hb
  go_wp2_with fail
  go_ret
  exact ⟨rfl, B1.out⟩

set_option maxHeartbeats 400000 in
set_option maxRecDepth 100000 in
theorem writeSymbol_any (ht : t.size ≤ 1000000) : Calls Tryz.prog 99 #[.agg #[.string nm, .int .i64 k, .int .i64 z, .string t, .slice ai n ci, .slice ao m ct]] w
    fun e w' => e = .returned (.string ⟨(64 :: t.data.toList).toArray⟩) ∧ Below w.heap.size w w' := by
  obtain ⟨T, rfl⟩ : ∃ T : List UInt8, t = ⟨T.toArray⟩ := ⟨t.data.toList, bytes_eq rfl⟩
  rw [mk_size] at ht
  obtain ⟨Z, hZ⟩ : ∃ Z, Z = [64] ++ T := ⟨_, rfl⟩
  have hadd := add_named hZ (by decide) ht
  have HZ := Lib.hid hZ
  clear hZ
  go_enter Tryz.func99, Tryz.ntmps99
  go_wp2_with fail
  go_ret
  exact ⟨by rw [show (64 :: (⟨T.toArray⟩ : ByteArray).data.toList) = Z from HZ.out.symm]; rfl, alloc_below _ _⟩

set_option maxHeartbeats 400000 in
set_option maxRecDepth 100000 in
theorem writeType_any : Calls Tryz.prog 102 #[.agg #[.string nm, .int .i64 k, .int .i64 z, .string t, .slice ai n ci, .slice ao m ct]] w
    fun e w' => e = .returned (.string t) ∧ Below w.heap.size w w' := by
  go_enter Tryz.func102, Tryz.ntmps102
  go_wp2_with fail
  go_ret
  exact ⟨rfl, alloc_below _ _⟩

set_option maxHeartbeats 400000 in
set_option maxRecDepth 100000 in
theorem writeTypes_any (ss : List ByteArray) (hcap : ss.length ≤ ct) (hall : tysB ss = true) (h100 : ss.length ≤ 100) (hz : StrsAt w ao ss) (hE : Env w) :
    Calls Tryz.prog 108 #[.agg #[.string nm, .int .i64 k, .int .i64 z, .string t, .slice ai n ci, .slice ao ss.length ct]] w
    fun e w' => e = .returned (.string ⟨(joinR (ss.map (·.data.toList))).toArray⟩) ∧ Below w.heap.size w w' := by
  have HE := Lib.hid hE
  have HZ := Lib.hid hz
  have HA := Lib.hid hall
  clear hE hz hall
  go_enter Tryz.func108, Tryz.ntmps108
  go_wp2_with fail
  refine (Join_yes ao ss ct hcap HA.out h100 _ (HZ.out.below (alloc_below _ _)) (HE.out.below (alloc_below _ _))).mono ?_
  rintro e w1 ⟨rfl, hb⟩
  have B1 := Lib.hid ((alloc_below _ _).trans (hb.mono (by simp)))
  clear hb
  obtain ⟨J, hJ⟩ : ∃ J, J = joinR (ss.map (·.data.toList)) := ⟨_, rfl⟩
  rw [← hJ]
  have HJ := Lib.hid hJ
  clear hJ
  go_wp2_with fail
  go_ret
  exact ⟨by rw [← HJ.out]; rfl, B1.out⟩
end

/-! ### Lists of numbers -/
def itoaB (z : Int) : ByteArray := ⟨(Lib.itoa z).toArray⟩
theorem take_itoa {zs : List Int} {m : Nat} (hm : m < zs.length) : (zs.take (m + 1)).map itoaB = (zs.take m).map itoaB ++ [itoaB (zs[m]?.getD 0)] := by
  rw [List.take_add_one, List.getElem?_eq_getElem hm, List.map_append]
  rfl
theorem itoaB_len {z : Int} (h : i64 z) : (itoaB z).size ≤ 60 := by
  have h1 := Lib.itoa_length_le z h.1 h.2
  have h2 : (itoaB z).size = (Lib.itoa z).length := mk_size _
  omega
theorem own_cap {w : World} {B n : Nat} {e : TypeId} {ao : Option Addr} {c : Nat} {xs : List Value} (h : w.ownsRow B e 1 (.slice ao n c) n xs) : n ≤ c := by
  rcases h.2 with ⟨_, h0⟩ | ⟨g, cap, cur, hv, _, _, hc, _⟩
  · omega
  · cases hv; exact hc

set_option maxHeartbeats 1000000 in
set_option maxRecDepth 100000 in
theorem writeInts_any (nm : ByteArray) (k z : Int) (t : ByteArray) (ai : Option Addr) (ci : Nat) (ao : Option Addr) (m ct : Nat) (w : World) (zs : List Int) (h100 : zs.length ≤ 100) (hall : ∀ z ∈ zs, i64 z) (hz : IntsAt w ai zs) (hE : Env w) :
    Calls Tryz.prog 105 #[.agg #[.string nm, .int .i64 k, .int .i64 z, .string t, .slice ai zs.length ci, .slice ao m ct]] w
    fun e w' => e = .returned (.string ⟨(intsL zs).toArray⟩) ∧ Below w.heap.size w w' := by
  have HE := Lib.hid hE
  have HZ := Lib.hid hz
  have HA := Lib.hid hall
  clear hE hz hall
  obtain ⟨i, hi, hiz, his, hib⟩ := info_str
  have T0 := heap_alloc_new w (.cells #[.string nm, .int .i64 k, .int .i64 z, .string t, .slice ai zs.length ci, .slice ao m ct] 74)
  have HT0 := Lib.hid T0
  clear T0
  go_enter Tryz.func105, Tryz.ntmps105
  go_wp2_with (at_make; refine wpList_make_own _ rfl _ _ 27 rfl w.heap.size 9 i (.string ⟨#[]⟩) 1 Tryz.underlying27 hi hiz his .i64 .i64 (zs.length : Int) zs.length rfl rfl rfl (by rw [hib]; omega) (by simp only [maxLen]; omega) (by simp) ?_; intro w1 hown hg; have B1 := Lib.hid ((alloc_below w (.cells #[.string nm, .int .i64 k, .int .i64 z, .string t, .slice ai zs.length ci, .slice ao m ct] 74)).grown hg (by simp) (fun j e => by cases e)); have T1 := (hg.block _ (lt_of_block HT0.out) (by simp)).trans HT0.out; obtain ⟨c0, c1, c2, c3, c4, c5, cf⟩ := cells6 T1; have HO := Lib.hid (show w1.ownsRow w.heap.size 9 1 (.slice (some ⟨w.heap.size + 1, 0, none⟩) 0 zs.length) 0 [] by simpa using hown); clear hown hg T1)
  clear c0 c1 c2 c3 c4 c5 cf
  go_loopw [13, 3, 5] (fun v13 v3 _ wr => ∃ q : Nat, ∃ ps : List ByteArray, ∃ (a3 : Option Addr) (c : Nat), q ≤ zs.length ∧ v13 = .int .i64 q ∧ v3 = .slice a3 ps.length c ∧
    Hid (ps = (zs.take q).map itoaB ∧ Below w.heap.size w wr ∧ wr.ownsRow w.heap.size 9 1 (.slice a3 ps.length c) ps.length (ps.map .string))) (fun v13 _ _ _ => zs.length - (intOf v13).toNat)
  case atStart => exact ⟨0, [], _, _, Nat.zero_le _, rfl, rfl, rfl, B1.out, HO.out⟩
  case round =>
    obtain ⟨q, ps, a3, c, hq, rfl, rfl, hh⟩ := hrel
    have hpl := Lib.hid (show ps.length = q by rw [hh.out.1, List.length_map, List.length_take]; omega)
    by_cases hlt : q < zs.length
    · rcases HZ.out.below hh.out.2.1 with h0 | ⟨a, rfl, hc⟩
      · rw [h0] at hlt; exact absurd hlt (Nat.not_lt_zero _)
      have hcm := hc q hlt
      have hstep := take_itoa hlt
      obtain ⟨x, hx⟩ : ∃ x, x = zs[q]?.getD 0 := ⟨_, rfl⟩
      have hx64 : i64 x := by rw [hx, List.getElem?_eq_getElem hlt]; exact HA.out _ (List.getElem_mem hlt)
      rw [← hx] at hcm hstep
      have HS := Lib.hid hstep
      clear hc hx hstep
      go_wp2_with fail
      refine (fmt_any x hx64 _ (HE.out.below hh.out.2.1)).mono ?_
      rintro e w2 ⟨rfl, hb⟩
      have HB2 := Lib.hid (hh.out.2.1.trans (hb.mono hh.out.2.1.size))
      have HO2 := Lib.hid (own_under hh.out.2.2 hb)
      clear hb hcm
      go_wp2_with (at_builtin; refine wp_append_str rfl _ _ rfl HO2.out HB2.out.size (by have := hpl.out; omega) rfl rfl ?_; intro a3' c' w3 hown hbel; have HB3 := Lib.hid (HB2.out.trans hbel); have HO3 := Lib.hid hown; clear hown hbel)
      go_roundw
      case rel =>
        refine ⟨q + 1, ps ++ [itoaB x], a3', c', by omega, by go_num, by rw [List.length_append]; rfl, ?_, HB3.out, HO3.out⟩
        rw [HS.out, hh.out.1]
      case measure => simp [intOf]; omega
    · obtain rfl : q = zs.length := by omega
      have hps := Lib.hid (show ps = zs.map itoaB by rw [hh.out.1, List.take_length])
      have hst := own_strs hh.out.2.2 rfl
      have h60 : ∀ s ∈ ps, s.size ≤ 60 := by
        rw [hps.out]
        intro s hs
        obtain ⟨y, hy, rfl⟩ := List.mem_map.1 hs
        exact itoaB_len (HA.out y hy)
      have hcap := own_cap hh.out.2.2
      go_wp2_with fail
      refine (strJoin_any a3 ps c hcap (by have := hpl.out; omega) h60 _ hst).mono ?_
      rintro e w2 ⟨rfl, hb⟩
      have HB2 := Lib.hid (hh.out.2.1.trans (hb.mono hh.out.2.1.size))
      have hjl := join_size h60
      have hpl2 := hpl.out
      obtain ⟨J, hJ⟩ : ∃ J, J = Lib.join (ps.map (·.data.toList)) gap := ⟨_, rfl⟩
      obtain ⟨J2, hJ2⟩ : ∃ J2, J2 = [91] ++ J := ⟨_, rfl⟩
      obtain ⟨J3, hJ3⟩ : ∃ J3, J3 = J2 ++ [93] := ⟨_, rfl⟩
      rw [← hJ] at hjl ⊢
      have hl2 : J2.length ≤ 1000000 := by rw [hJ2, List.length_append, List.length_singleton]; omega
      have hadd1 := add_named hJ2 (by decide) (by omega) w2
      have hadd2 := add_named hJ3 hl2 (by decide) w2
      have HJ := Lib.hid (show intsL zs = J3 by
        rw [hJ3, hJ2, hJ, hps.out, List.map_map]; rfl)
      clear hJ hJ2 hJ3 hb h60 hst hps hpl2
      go_wp2_with fail
      go_ret
      exact ⟨by rw [HJ.out]; rfl, HB2.out⟩
end Go.Proofs.YtiofnjnaleglgaaGreatDoor

/-
  'isRight' and 'value' by contracts: the table's methods are called kind by kind.
-/
namespace Go.Proofs.YtiofnjnaleglgaaGreatDoor
open Go.RowKit

/-- The number of the method that tells whether the fields are right; that which writes; that which reads. -/
def rightF (i : Nat) : Nat := match i with | 0 => 92 | 1 => 95 | 2 => 98 | 3 => 101 | 4 => 104 | _ => 107
def writeF (i : Nat) : Nat := match i with | 0 => 93 | 1 => 96 | 2 => 99 | 3 => 102 | 4 => 105 | _ => 108
def readF (i : Nat) : Nat := match i with | 0 => 94 | 1 => 97 | 2 => 100 | 3 => 103 | 4 => 106 | _ => 109
theorem manOf_is {i : Nat} (h : i ≤ 5) : manOf i = .agg #[.func (.func (rightF i)) #[] #[], .func (.func (writeF i)) #[] #[], .func (.func (readF i)) #[] #[]] := by
  rcases (show i = 0 ∨ i = 1 ∨ i = 2 ∨ i = 3 ∨ i = 4 ∨ i = 5 by omega) with rfl | rfl | rfl | rfl | rfl | rfl <;> rfl

theorem enters_right (i : Nat) (args : Array Value) (w : World) : (callFunc (rightF i) args).run Tryz.prog w = .ok (.enter (rightF i) args) w := by
  match i with
  | 0 => exact enters_of Tryz.func92 (by kernel_rfl) rfl args w
  | 1 => exact enters_of Tryz.func95 (by kernel_rfl) rfl args w
  | 2 => exact enters_of Tryz.func98 (by kernel_rfl) rfl args w
  | 3 => exact enters_of Tryz.func101 (by kernel_rfl) rfl args w
  | 4 => exact enters_of Tryz.func104 (by kernel_rfl) rfl args w
  | n + 5 => exact enters_of Tryz.func107 (by kernel_rfl) rfl args w
theorem enters_write (i : Nat) (args : Array Value) (w : World) : (callFunc (writeF i) args).run Tryz.prog w = .ok (.enter (writeF i) args) w := by
  match i with
  | 0 => exact enters_of Tryz.func93 (by kernel_rfl) rfl args w
  | 1 => exact enters_of Tryz.func96 (by kernel_rfl) rfl args w
  | 2 => exact enters_of Tryz.func99 (by kernel_rfl) rfl args w
  | 3 => exact enters_of Tryz.func102 (by kernel_rfl) rfl args w
  | 4 => exact enters_of Tryz.func105 (by kernel_rfl) rfl args w
  | n + 5 => exact enters_of Tryz.func108 (by kernel_rfl) rfl args w
theorem enters_read (i : Nat) (args : Array Value) (w : World) : (callFunc (readF i) args).run Tryz.prog w = .ok (.enter (readF i) args) w := by
  match i with
  | 0 => exact enters_of Tryz.func94 (by kernel_rfl) rfl args w
  | 1 => exact enters_of Tryz.func97 (by kernel_rfl) rfl args w
  | 2 => exact enters_of Tryz.func100 (by kernel_rfl) rfl args w
  | 3 => exact enters_of Tryz.func103 (by kernel_rfl) rfl args w
  | 4 => exact enters_of Tryz.func106 (by kernel_rfl) rfl args w
  | n + 5 => exact enters_of Tryz.func109 (by kernel_rfl) rfl args w

/-- The kind's method tells whether the fields are right. -/
theorem kind_right {a : At} {v : Value} {ai : Option Addr} {ci : Nat} {ao : Option Addr} {ct : Nat} (hk : 0 ≤ a.kind ∧ a.kind ≤ 5) (w : World) (ha : AttAt w a v ai ci ao ct) (hE : Env w) :
    Calls Tryz.prog (rightF (kindNo a.kind)) #[v] w fun e w' => e = .returned (.bool (kindB a)) ∧ Below w.heap.size w w' := by
  obtain ⟨nm, k, z, t, zs, ss⟩ := a
  rw [ha.val]
  have hz := ha.ints
  have hs := ha.texts
  dsimp only at hk hz hs ⊢
  unfold kindNo kindB usesTextB
  dsimp only
  rw [if_pos hk]
  rcases (show k = 0 ∨ k = 1 ∨ k = 2 ∨ k = 3 ∨ k = 4 ∨ k = 5 by omega) with rfl | rfl | rfl | rfl | rfl | rfl
  · exact rightInt_any nm 0 z t ai zs.length ci ao ss.length ct w
  · exact rightText_any nm 1 z t ai zs.length ci ao ss.length ct w
  · exact rightSymbol_any nm 2 z t ai zs.length ci ao ss.length ct w
  · exact rightType_any nm 3 z t ai zs.length ci ao ct w ss.length hE
  · exact rightInts_any nm 4 z t ai zs.length ci ao ss.length ct w
  · exact rightTypes_any nm 5 z t ai zs.length ci ao ct w ss hs hE
theorem kind_out {a : At} (hk : ¬ (0 ≤ a.kind ∧ a.kind ≤ 5)) : kindB a = false := by
  unfold kindB
  rw [if_neg (by omega), if_neg (by omega), if_neg (by omega), if_neg (by omega), if_neg (by omega), if_neg (by omega)]

set_option maxHeartbeats 2000000 in
set_option maxRecDepth 100000 in
theorem isRight_any (a : At) (v : Value) (ai : Option Addr) (ci : Nat) (ao : Option Addr) (ct : Nat) (w : World) (ha : AttAt w a v ai ci ao ct) (hE : Env w) :
    Calls Tryz.prog 45 #[v] w fun e w' => e = .returned (.bool (rightB a)) ∧ Below w.heap.size w w' := by
  have HE := Lib.hid hE
  have HA := Lib.hid ha
  have hv := ha.val
  have hk64 := ha.wf.kind
  have hkr : ∀ w', Below w.heap.size w w' → (0 ≤ a.kind ∧ a.kind ≤ 5) → Calls Tryz.prog (rightF (kindNo a.kind)) #[v] w' fun e w'' => e = .returned (.bool (kindB a)) ∧ Below w'.heap.size w' w'' :=
    fun w' hb hk => kind_right hk w' (ha.below hb) (hE.below hb)
  have hko := kind_out (a := a)
  have hrb : rightB a = (isNameR a.name.data.toList && kindB a) := rfl
  clear ha hE
  rw [hrb]
  generalize kindB a = kb at hkr hko
  obtain ⟨nm, k, z, t, zs, ss⟩ := a
  dsimp only at hv hk64 hkr hko ⊢
  have HK := Lib.hid hkr
  have HKO := Lib.hid hko
  have T0 := Lib.hid (heap_alloc_new w (.cells #[.string nm, .int .i64 k, .int .i64 z, .string t, .slice ai zs.length ci, .slice ao ss.length ct] 74))
  clear hkr hko hrb
  subst hv
  go_enter Tryz.func45, Tryz.ntmps45
  go_wp2_with fail
  refine (mannerOf_any k hk64 _).mono ?_
  rintro e w1 ⟨rfl, hb⟩
  have B1 := Lib.hid ((alloc_below w _).trans (hb.mono (alloc_below w _).size))
  have T1 := Lib.hid ((hb.block _ (lt_of_block T0.out)).trans T0.out)
  clear hb
  by_cases hk : 0 ≤ k ∧ k ≤ 5
  · rw [decide_eq_true hk, manOf_is (show kindNo k ≤ 5 by unfold kindNo; rw [if_pos hk]; omega)]
    obtain ⟨c0, c1, c2, c3, c4, c5, cf⟩ := cells6 T1.out
    have hlt := lt_of_block T1.out
    have hen := enters_right (kindNo k)
    generalize rightF (kindNo k) = f at HK hen
    generalize writeF (kindNo k) = g
    generalize readF (kindNo k) = h
    have M1 := Lib.hid (heap_alloc_new w1 (.cells #[.func (.func f) #[] #[], .func (.func g) #[] #[], .func (.func h) #[] #[]] 110))
    go_wp2_with fail
    refine (aName_any nm _).mono ?_
    rintro e w2 ⟨rfl, hb⟩
    have B2 := Lib.hid (B1.out.trans ((alloc_below w1 (.cells #[.func (.func f) #[] #[], .func (.func g) #[] #[], .func (.func h) #[] #[]] 110)).mono B1.out.size |>.trans (hb.mono (by have := B1.out.size; simp; omega))))
    have M2 := Lib.hid ((hb.block _ (lt_of_block M1.out)).trans M1.out)
    have T2 := Lib.hid ((hb.block _ (by have := lt_of_block T1.out; simp; omega)).trans ((Below.heap_alloc _ _ _ (lt_of_block T1.out)).trans T1.out))
    clear hb c0 c1 c2 c3 c4 c5 cf
    cases hnm : isNameR nm.data.toList
    · have HN := Lib.hid hnm
      clear hnm
      go_wp2_with fail
      go_ret
      exact ⟨by rw [HN.out]; rfl, B2.out⟩
    · have HN := Lib.hid hnm
      clear hnm
      obtain ⟨c0, c1, c2, c3, c4, c5, cf⟩ := cells6 T2.out
      obtain ⟨m0, m1, m2, mf⟩ := cells3 M2.out
      go_wp2_with fail
      refine (HK.out _ B2.out hk).mono ?_
      rintro e w3 ⟨rfl, hb⟩
      have B3 := Lib.hid (B2.out.trans (hb.mono B2.out.size))
      clear hb
      go_wp2_with fail
      go_ret
      exact ⟨by rw [HN.out, Bool.true_and]; rfl, B3.out⟩
  · rw [decide_eq_false hk]
    have hkb := Lib.hid (HKO.out hk)
    have hm6 : manOf (kindNo k) = .agg #[.nilFunc, .nilFunc, .nilFunc] := by
      unfold kindNo
      rw [if_neg hk]
      rfl
    rw [hm6]
    clear hm6
    go_wp2_with fail
    go_ret
    exact ⟨by rw [hkb.out, Bool.and_false]; rfl, B1.out.alloc B1.out.size _⟩
end Go.Proofs.YtiofnjnaleglgaaGreatDoor

/-
  'value' by its contract; how values are read, method by method: loosely, but what was written is read back.
-/
namespace Go.Proofs.YtiofnjnaleglgaaGreatDoor
open Go.RowKit

theorem kind_write {a : At} {v : Value} {ai : Option Addr} {ci : Nat} {ao : Option Addr} {ct : Nat} (hr : rightB a = true) (w : World) (ha : AttAt w a v ai ci ao ct) (hE : Env w) :
    Calls Tryz.prog (writeF (kindNo a.kind)) #[v] w fun e w' => e = .returned (.string ⟨(valueL a).toArray⟩) ∧ Below w.heap.size w w' := by
  have hv := ha.val
  have hw := ha.wf
  have hi := ha.ints
  have hs := ha.texts
  have htc := ha.tcap
  obtain ⟨_, ⟨n, z, rfl⟩ | ⟨n, t, rfl, ht⟩ | ⟨n, t, rfl, ht⟩ | ⟨n, t, rfl, ht⟩ | ⟨n, zs, rfl, hz⟩ | ⟨n, ss, rfl, hl, hss⟩⟩ := right_cases hr
  all_goals
    dsimp only at hv hi hs htc
    subst hv
  · exact writeInt_any n 0 z _ ai 0 ci ao 0 ct w hw.num hE
  · exact writeText_any n 1 0 t ai 0 ci ao 0 ct w (by omega)
  · exact writeSymbol_any n 2 0 t ai 0 ci ao 0 ct w (by have := name_size ht; rw [size_eq]; omega)
  · exact writeType_any n 3 0 t ai 0 ci ao 0 ct w
  · exact writeInts_any n 4 0 _ ai ci ao 0 ct w zs hz hw.ints hi hE
  · exact writeTypes_any n 5 0 _ ai 0 ci ao ct w ss htc hss hl hs hE
theorem right_kind {a : At} (h : rightB a = true) : 0 ≤ a.kind ∧ a.kind ≤ 5 := by
  obtain ⟨_, ⟨n, z, rfl⟩ | ⟨n, t, rfl, ht⟩ | ⟨n, t, rfl, ht⟩ | ⟨n, t, rfl, ht⟩ | ⟨n, zs, rfl, hz⟩ | ⟨n, ss, rfl, hl, hss⟩⟩ := right_cases h <;> dsimp only <;> omega

set_option maxHeartbeats 2000000 in
set_option maxRecDepth 100000 in
theorem value_any (a : At) (v : Value) (ai : Option Addr) (ci : Nat) (ao : Option Addr) (ct : Nat) (hr : rightB a = true) (w : World) (ha : AttAt w a v ai ci ao ct) (hE : Env w) :
    Calls Tryz.prog 51 #[v] w fun e w' => e = .returned (.string ⟨(valueL a).toArray⟩) ∧ Below w.heap.size w w' := by
  have HE := Lib.hid hE
  have hv := ha.val
  have hk64 := ha.wf.kind
  have hk := right_kind hr
  have hkw : ∀ w', Below w.heap.size w w' → Calls Tryz.prog (writeF (kindNo a.kind)) #[v] w' fun e w'' => e = .returned (.string ⟨(valueL a).toArray⟩) ∧ Below w'.heap.size w' w'' :=
    fun w' hb => kind_write hr w' (ha.below hb) (hE.below hb)
  generalize (⟨(valueL a).toArray⟩ : ByteArray) = V at hkw ⊢
  clear ha hE hr
  obtain ⟨nm, k, z, t, zs, ss⟩ := a
  dsimp only at hv hk64 hkw hk
  have HK := Lib.hid hkw
  have T0 := Lib.hid (heap_alloc_new w (.cells #[.string nm, .int .i64 k, .int .i64 z, .string t, .slice ai zs.length ci, .slice ao ss.length ct] 74))
  clear hkw
  subst hv
  go_enter Tryz.func51, Tryz.ntmps51
  go_wp2_with fail
  refine (mannerOf_any k hk64 _).mono ?_
  rintro e w1 ⟨rfl, hb⟩
  have B1 := Lib.hid ((alloc_below w _).trans (hb.mono (alloc_below w _).size))
  have T1 := Lib.hid ((hb.block _ (lt_of_block T0.out)).trans T0.out)
  clear hb
  rw [decide_eq_true hk, manOf_is (show kindNo k ≤ 5 by unfold kindNo; rw [if_pos hk]; omega)]
  obtain ⟨c0, c1, c2, c3, c4, c5, cf⟩ := cells6 T1.out
  have hlt := lt_of_block T1.out
  have hen := enters_write (kindNo k)
  generalize rightF (kindNo k) = f
  generalize writeF (kindNo k) = g at HK hen
  generalize readF (kindNo k) = h
  have BA := Lib.hid (B1.out.alloc B1.out.size (.cells #[.func (.func f) #[] #[], .func (.func g) #[] #[], .func (.func h) #[] #[]] 110))
  go_wp2_with fail
  refine (HK.out _ BA.out).mono ?_
  rintro e w3 ⟨rfl, hb⟩
  have B3 := Lib.hid (BA.out.trans (hb.mono BA.out.size))
  clear hb
  go_wp2_with fail
  go_ret
  exact ⟨rfl, B3.out⟩

/-! ### What the reading methods leave -/
/-- What lies in a block that is new since w. -/
def NewAt (w : World) (ao : Option Addr) : Prop := ∀ a, ao = some a → w.heap.size ≤ a.block
theorem newNone {w : World} : NewAt w none := fun _ e => by cases e
/-- What lies in a block of numbers, of strings. -/
def LiesI (w : World) (ao : Option Addr) : Prop := ∀ a, ao = some a → ∃ cs, w.heap[a.block]? = some (.cells cs 2 (0, 0))
def TypAt (w : World) (ao : Option Addr) : Prop := ∀ a, ao = some a → ∃ cs, w.heap[a.block]? = some (.cells cs 9 (0, 0))
theorem liesNone {w : World} : LiesI w none := fun _ e => by cases e
theorem typNone {w : World} : TypAt w none := fun _ e => by cases e
/-- What a reading method tells: some attribute with the name and the kind; of a right one's value, that one. -/
def ReadOut (nm : ByteArray) (k : Int) (s : ByteArray) (w : World) (e : Ending) (w' : World) : Prop := Below w.heap.size w w' ∧
  ∃ (a : At) (v : Value) (ai : Option Addr) (ci : Nat) (ao : Option Addr) (ct : Nat) (ok : Bool), e = .returned (.tuple #[v, .bool ok]) ∧ AttAt w' a v ai ci ao ct ∧ NewAt w ai ∧ NewAt w ao ∧ LiesI w' ai ∧ TypAt w' ao ∧ a.name = nm ∧ a.kind = k ∧
    ∀ b, rightB b = true → b.Wf → b.name = nm → b.kind = k → valueL b = s.data.toList → a = b ∧ ok = true

theorem set6_block {w : World} {b : Nat} {T : TypeId} {v0 v1 v2 v3 v4 v5 u0 u1 u2 u3 u4 u5 : Value} (h : w.heap[b]? = some (.cells #[v0, v1, v2, v3, v4, v5] T (0, 0))) :
    ((((((w.setCell ⟨b, 0, none⟩ u0).setCell ⟨b, 1, none⟩ u1).setCell ⟨b, 2, none⟩ u2).setCell ⟨b, 3, none⟩ u3).setCell ⟨b, 4, none⟩ u4).setCell ⟨b, 5, none⟩ u5).heap[b]? = some (.cells #[u0, u1, u2, u3, u4, u5] T (0, 0)) := by
  have h0 := heap_setCell_same _ b 0 _ T u0 h
  have h1 := heap_setCell_same _ b 1 _ T u1 h0
  have h2 := heap_setCell_same _ b 2 _ T u2 h1
  have h3 := heap_setCell_same _ b 3 _ T u3 h2
  have h4 := heap_setCell_same _ b 4 _ T u4 h3
  have h5 := heap_setCell_same _ b 5 _ T u5 h4
  rw [h5]
  rfl
theorem below_set6 {B : Nat} {w W : World} (h : Below B w W) {b : Nat} (hb : B ≤ b) {u0 u1 u2 u3 u4 u5 : Value} :
    Below B w ((((((W.setCell ⟨b, 0, none⟩ u0).setCell ⟨b, 1, none⟩ u1).setCell ⟨b, 2, none⟩ u2).setCell ⟨b, 3, none⟩ u3).setCell ⟨b, 4, none⟩ u4).setCell ⟨b, 5, none⟩ u5) :=
  (((((h.setCell (p := ⟨b, 0, none⟩) hb _).setCell (p := ⟨b, 1, none⟩) hb _).setCell (p := ⟨b, 2, none⟩) hb _).setCell (p := ⟨b, 3, none⟩) hb _).setCell (p := ⟨b, 4, none⟩) hb _).setCell (p := ⟨b, 5, none⟩) hb _
theorem attVar {w : World} {b : Nat} {v0 v1 v2 v3 v4 v5 : Value} (h : w.heap[b]? = some (.cells #[v0, v1, v2, v3, v4, v5] 74 (0, 0))) :
    (loadVar 74 ⟨b, 0, none⟩).run Tryz.prog w = .ok (.agg #[v0, v1, v2, v3, v4, v5]) w :=
  run_loadVar_row w b _ _ _ _ _ h Tryz.underlying74 rfl (by kernel_rfl)

def ParsePost (s : ByteArray) (w : World) (e : Ending) (w' : World) : Prop := Below w.heap.size w w' ∧ ((∃ v, i64 v ∧ Lib.parseIntB 64 s.data.toList = .ok v ∧ e = .returned (.tuple #[.int .i64 v, .nilIface])) ∨
  ((∀ v, Lib.parseIntB 64 s.data.toList ≠ .ok v) ∧ ∃ n t p, i64 n ∧ e = .returned (.tuple #[.int .i64 n, .iface t p])))
theorem intB_i64 {l : List UInt8} {v : Int} (h : Lib.parseIntB 64 l = .ok v) : i64 v := by
  unfold Lib.parseIntB at h
  have e : (2 : Nat) ^ (64 - 1) = 9223372036854775808 := by decide
  cases l with
  | nil => cases h
  | cons c r =>
    simp only at h
    split at h
    · cases h
    · cases h
    · rename_i u _
      split at h
      · cases h
      · rename_i h1
        split at h
        · cases h
        · rename_i h2
          injection h with h
          rw [e] at h1 h2
          by_cases hn : c.toNat = 45
          · rw [if_pos hn] at h
            have : ¬ 9223372036854775808 < u := fun h => h2 ⟨hn, h⟩
            exact ⟨by omega, by omega⟩
          · rw [if_neg hn] at h
            have : ¬ 9223372036854775808 ≤ u := fun h => h1 ⟨hn, h⟩
            exact ⟨by omega, by omega⟩
theorem parseInt_any (s : ByteArray) (hs : s.size ≤ 281474976710656) (w : World) (hE : Env w) :
    Calls Tryz.prog 119 #[.string s, .int .i64 10, .int .i64 64] w (ParsePost s w) := by
  obtain ⟨z, hz⟩ : ∃ z, z = Lib.parseIntB 64 s.data.toList := ⟨_, rfl⟩
  have h := hz.symm
  clear hz
  rcases z with v | _ | _
  · refine (Tryz.strconv_ParseInt_10_at64_ok s (by omega) v h w).mono ?_
    rintro e w' ⟨rfl, hw⟩
    refine ⟨?_, .inl ⟨v, intB_i64 h, h, rfl⟩⟩
    rcases hw with rfl | ⟨t, rfl⟩
    · exact Below.refl _ _
    · exact below_bytes w _ t
  · obtain ⟨tp, p, hv⟩ := hE.syn
    refine (Any.strconv_ParseInt_10_at64_syntax_var Tryz.laysC174 s hs h tp p w hv).mono ?_
    rintro e w' ⟨N, rfl, _, _, hb⟩
    exact ⟨hb, .inr ⟨fun v => by rw [h]; simp, _, _, _, ⟨by decide, by decide⟩, rfl⟩⟩
  · obtain ⟨tp, p, hv⟩ := hE.ran
    refine (Tryz.strconv_ParseInt_10_at64_range_var s hs h tp p w hv).mono ?_
    rintro e w' ⟨N, rfl, _, _, hb⟩
    refine ⟨hb, .inr ⟨fun v => by rw [h]; simp, _, _, _, ?_, rfl⟩⟩
    unfold Lib.intSat
    split
    · exact ⟨by decide, by decide⟩
    · exact ⟨by decide, by decide⟩
end Go.Proofs.YtiofnjnaleglgaaGreatDoor

/-
  The reading methods for types, symbols, texts and numbers.
-/
namespace Go.Proofs.YtiofnjnaleglgaaGreatDoor
open Go.RowKit

abbrev attZ (nm : ByteArray) (k : Int) : Value := .agg #[.string nm, .int .i64 k, .int .i64 0, .string ⟨#[]⟩, .slice none 0 0, .slice none 0 0]

theorem text_att {W : World} (nm : ByteArray) (k : Int) (hk : i64 k) (t : ByteArray) : AttAt W ⟨nm, k, 0, t, [], []⟩ (.agg #[.string nm, .int .i64 k, .int .i64 0, .string t, .slice none 0 0, .slice none 0 0]) none 0 none 0 :=
  ⟨rfl, .inl rfl, .inl rfl, Nat.le_refl _, Nat.le_refl _, ⟨hk, (by decide : i64 0), fun _ h => (by cases h), Nat.zero_le _, Nat.zero_le _⟩⟩
theorem num_att {W : World} (nm : ByteArray) (k z : Int) (hk : i64 k) (hz : i64 z) : AttAt W ⟨nm, k, z, ⟨#[]⟩, [], []⟩ (.agg #[.string nm, .int .i64 k, .int .i64 z, .string ⟨#[]⟩, .slice none 0 0, .slice none 0 0]) none 0 none 0 :=
  ⟨rfl, .inl rfl, .inl rfl, Nat.le_refl _, Nat.le_refl _, ⟨hk, hz, fun _ h => (by cases h), Nat.zero_le _, Nat.zero_le _⟩⟩

theorem attVar_drew {w : World} {b : Nat} {v0 v1 v2 v3 v4 v5 : Value} (h : w.heap[b]? = some (.cells #[v0, v1, v2, v3, v4, v5] 74 (0, 0))) :
    (loadVar 74 ⟨b, 0, none⟩).run Tryz.prog w.drew = .ok (.agg #[v0, v1, v2, v3, v4, v5]) w.drew :=
  attVar (w := w.drew) h
theorem bytes_inj {a b : ByteArray} (h : a.data.toList = b.data.toList) : a = b := by
  apply ByteArray.ext
  exact Array.ext' h
theorem canon_int {b : At} (hr : rightB b = true) (hk : b.kind = 0) : ∃ z, b = ⟨b.name, 0, z, ⟨#[]⟩, [], []⟩ ∧ valueL b = Lib.itoa z := by
  obtain ⟨_, ⟨n, z, rfl⟩ | ⟨n, t, rfl, ht⟩ | ⟨n, t, rfl, ht⟩ | ⟨n, t, rfl, ht⟩ | ⟨n, zs, rfl, hz⟩ | ⟨n, ss, rfl, hl, hss⟩⟩ := right_cases hr
  · exact ⟨z, rfl, rfl⟩
  all_goals simp at hk
theorem canon_text {b : At} (hr : rightB b = true) (hk : b.kind = 1) : ∃ t, b = ⟨b.name, 1, 0, t, [], []⟩ ∧ valueL b = quoteL t.data.toList := by
  obtain ⟨_, ⟨n, z, rfl⟩ | ⟨n, t, rfl, ht⟩ | ⟨n, t, rfl, ht⟩ | ⟨n, t, rfl, ht⟩ | ⟨n, zs, rfl, hz⟩ | ⟨n, ss, rfl, hl, hss⟩⟩ := right_cases hr
  · simp at hk
  · exact ⟨t, rfl, rfl⟩
  all_goals simp at hk
theorem canon_symbol {b : At} (hr : rightB b = true) (hk : b.kind = 2) : ∃ t, b = ⟨b.name, 2, 0, t, [], []⟩ ∧ valueL b = 64 :: t.data.toList := by
  obtain ⟨_, ⟨n, z, rfl⟩ | ⟨n, t, rfl, ht⟩ | ⟨n, t, rfl, ht⟩ | ⟨n, t, rfl, ht⟩ | ⟨n, zs, rfl, hz⟩ | ⟨n, ss, rfl, hl, hss⟩⟩ := right_cases hr
  · simp at hk
  · simp at hk
  · exact ⟨t, rfl, rfl⟩
  all_goals simp at hk
theorem canon_type {b : At} (hr : rightB b = true) (hk : b.kind = 3) : ∃ t, b = ⟨b.name, 3, 0, t, [], []⟩ ∧ valueL b = t.data.toList := by
  obtain ⟨_, ⟨n, z, rfl⟩ | ⟨n, t, rfl, ht⟩ | ⟨n, t, rfl, ht⟩ | ⟨n, t, rfl, ht⟩ | ⟨n, zs, rfl, hz⟩ | ⟨n, ss, rfl, hl, hss⟩⟩ := right_cases hr
  · simp at hk
  · simp at hk
  · simp at hk
  · exact ⟨t, rfl, rfl⟩
  all_goals simp at hk
theorem canon_ints {b : At} (hr : rightB b = true) (hk : b.kind = 4) : ∃ zs, b = ⟨b.name, 4, 0, ⟨#[]⟩, zs, []⟩ ∧ valueL b = intsL zs ∧ zs.length ≤ 100 := by
  obtain ⟨_, ⟨n, z, rfl⟩ | ⟨n, t, rfl, ht⟩ | ⟨n, t, rfl, ht⟩ | ⟨n, t, rfl, ht⟩ | ⟨n, zs, rfl, hz⟩ | ⟨n, ss, rfl, hl, hss⟩⟩ := right_cases hr
  · simp at hk
  · simp at hk
  · simp at hk
  · simp at hk
  · exact ⟨zs, rfl, rfl, hz⟩
  · simp at hk
theorem canon_types {b : At} (hr : rightB b = true) (hk : b.kind = 5) : ∃ ss, b = ⟨b.name, 5, 0, ⟨#[]⟩, [], ss⟩ ∧ valueL b = joinR (ss.map (·.data.toList)) ∧ ss.length ≤ 100 ∧ tysB ss = true := by
  obtain ⟨_, ⟨n, z, rfl⟩ | ⟨n, t, rfl, ht⟩ | ⟨n, t, rfl, ht⟩ | ⟨n, t, rfl, ht⟩ | ⟨n, zs, rfl, hz⟩ | ⟨n, ss, rfl, hl, hss⟩⟩ := right_cases hr
  · simp at hk
  · simp at hk
  · simp at hk
  · simp at hk
  · simp at hk
  · exact ⟨ss, rfl, rfl, hl, hss⟩

section
variable (nm : ByteArray) (s : ByteArray) (w : World)
theorem two_blocks (v : Array Value) : ((w.alloc (.cells v 74)).alloc (.cells #[.string ⟨#[]⟩, .int .i64 0, .int .i64 0, .string ⟨#[]⟩, .slice none 0 0, .slice none 0 0] 74)).heap[w.heap.size]? = some (.cells v 74 (0, 0)) ∧
    ((w.alloc (.cells v 74)).alloc (.cells #[.string ⟨#[]⟩, .int .i64 0, .int .i64 0, .string ⟨#[]⟩, .slice none 0 0, .slice none 0 0] 74)).heap[w.heap.size + 1]? = some (.cells #[.string ⟨#[]⟩, .int .i64 0, .int .i64 0, .string ⟨#[]⟩, .slice none 0 0, .slice none 0 0] 74 (0, 0)) ∧
    Below w.heap.size w ((w.alloc (.cells v 74)).alloc (.cells #[.string ⟨#[]⟩, .int .i64 0, .int .i64 0, .string ⟨#[]⟩, .slice none 0 0, .slice none 0 0] 74)) := by
  refine ⟨(Below.heap_alloc _ _ _ (by simp)).trans (heap_alloc_new _ _), ?_, ((Below.refl _ _).alloc (Nat.le_refl _) _).alloc (by simp) _⟩
  have := heap_alloc_new (w.alloc (.cells v 74)) (.cells #[.string ⟨#[]⟩, .int .i64 0, .int .i64 0, .string ⟨#[]⟩, .slice none 0 0, .slice none 0 0] 74)
  simpa using this

set_option maxHeartbeats 1000000 in
set_option maxRecDepth 100000 in
theorem readType_any : Calls Tryz.prog 103 #[attZ nm 3, .string s] w (ReadOut nm 3 s w) := by
  obtain ⟨t0, t1, tb⟩ := two_blocks w #[.string nm, .int .i64 3, .int .i64 0, .string ⟨#[]⟩, .slice none 0 0, .slice none 0 0]
  have T0 := Lib.hid t0
  have T1 := Lib.hid t1
  have TB := Lib.hid tb
  clear t0 t1 tb
  go_enter Tryz.func103, Tryz.ntmps103
  go_wp2_with fail
  refine bodyPost_ret (v := .tuple #[.agg #[.string nm, .int .i64 3, .int .i64 0, .string s, .slice none 0 0, .slice none 0 0], .bool true]) (results_cell_tmp Tryz.results103 rfl rfl (attVar (by
    have := heap_alloc_new (w.alloc (.cells #[.string nm, .int .i64 3, .int .i64 0, .string s, .slice none 0 0, .slice none 0 0] 74)) (.cells #[.string nm, .int .i64 3, .int .i64 0, .string s, .slice none 0 0, .slice none 0 0] 74)
    simpa using this))) rfl ?_
  refine ⟨((Below.refl _ _).alloc (Nat.le_refl _) _).alloc (by simp) _, ⟨nm, 3, 0, s, [], []⟩, _, none, 0, none, 0, true, rfl, text_att nm 3 (by decide) s, newNone, newNone, liesNone, typNone, rfl, rfl, fun b hr _ hn hk hv => ?_⟩
  obtain ⟨t, hb, hval⟩ := canon_type hr hk
  rw [hb, hn, bytes_inj (hval.symm.trans hv)]
  exact ⟨rfl, rfl⟩

set_option maxHeartbeats 1000000 in
set_option maxRecDepth 100000 in
theorem readText_any (hs : s.size ≤ 140737488355327) (hE : Env w) : Calls Tryz.prog 97 #[attZ nm 1, .string s] w (ReadOut nm 1 s w) := by
  have HE := Lib.hid hE
  clear hE
  obtain ⟨t0, t1, tb⟩ := two_blocks w #[.string nm, .int .i64 1, .int .i64 0, .string ⟨#[]⟩, .slice none 0 0, .slice none 0 0]
  have T0 := Lib.hid t0
  have T1 := Lib.hid t1
  have TB := Lib.hid tb
  clear t0 t1 tb
  go_enter Tryz.func97, Tryz.ntmps97
  go_wp2_with fail
  refine (unquoted_any s hs _ (HE.out.below TB.out)).mono ?_
  rintro e w1 ⟨hb, t, ok, rfl, _, hcan⟩
  have B1 := Lib.hid (TB.out.trans (hb.mono TB.out.size))
  have S0 := Lib.hid ((hb.block _ (lt_of_block T0.out)).trans T0.out)
  have S1 := Lib.hid ((hb.block _ (lt_of_block T1.out)).trans T1.out)
  have HC := Lib.hid hcan
  clear hb hcan
  obtain ⟨c0, c1, c2, c3, c4, c5, cf⟩ := cells6 S0.out
  obtain ⟨d0, d1, d2, d3, d4, d5, df⟩ := cells6 S1.out
  go_wp2_with fail
  refine bodyPost_ret (v := .tuple #[.agg #[.string nm, .int .i64 1, .int .i64 0, .string t, .slice none 0 0, .slice none 0 0], .bool ok]) (results_cell_tmp Tryz.results97 rfl rfl (attVar (set6_block ((heap_setCell_other _ _ _ _ (by dsimp only; omega)).trans S1.out)))) rfl ?_
  refine ⟨below_set6 (B1.out.setCell (p := ⟨w.heap.size, 3, none⟩) (Nat.le_refl _) _) (by omega), ⟨nm, 1, 0, t, [], []⟩, _, none, 0, none, 0, ok, rfl, text_att nm 1 (by decide) t, newNone, newNone, liesNone, typNone, rfl, rfl, fun b hr hw hn hk hv => ?_⟩
  obtain ⟨t', hb, hval⟩ := canon_text hr hk
  obtain ⟨h1, h2⟩ := HC.out t'.data.toList (hv.symm.trans hval)
  rw [hb, hn, bytes_inj h1]
  exact ⟨rfl, h2⟩

set_option maxHeartbeats 1000000 in
set_option maxRecDepth 100000 in
theorem readSymbol_any : Calls Tryz.prog 100 #[attZ nm 2, .string s] w (ReadOut nm 2 s w) := by
  obtain ⟨t0, t1, tb⟩ := two_blocks w #[.string nm, .int .i64 2, .int .i64 0, .string ⟨#[]⟩, .slice none 0 0, .slice none 0 0]
  have T0 := Lib.hid t0
  have T1 := Lib.hid t1
  have TB := Lib.hid tb
  clear t0 t1 tb
  go_enter Tryz.func100, Tryz.ntmps100
  go_wp2_with fail
  refine (cutPrefix_some _ _ _).mono ?_
  rintro e w1 ⟨t, ok, rfl, ht, hok, hw1⟩
  have hb : Below ((w.alloc (.cells #[.string nm, .int .i64 2, .int .i64 0, .string ⟨#[]⟩, .slice none 0 0, .slice none 0 0] 74)).alloc (.cells #[.string ⟨#[]⟩, .int .i64 0, .int .i64 0, .string ⟨#[]⟩, .slice none 0 0, .slice none 0 0] 74)).heap.size ((w.alloc (.cells #[.string nm, .int .i64 2, .int .i64 0, .string ⟨#[]⟩, .slice none 0 0, .slice none 0 0] 74)).alloc (.cells #[.string ⟨#[]⟩, .int .i64 0, .int .i64 0, .string ⟨#[]⟩, .slice none 0 0, .slice none 0 0] 74)) w1 := by rw [← hw1]; exact Below.refl _ _
  have B1 := Lib.hid (TB.out.trans (hb.mono TB.out.size))
  have S0 := Lib.hid ((hb.block _ (lt_of_block T0.out)).trans T0.out)
  have S1 := Lib.hid ((hb.block _ (lt_of_block T1.out)).trans T1.out)
  clear hb hw1
  obtain ⟨c0, c1, c2, c3, c4, c5, cf⟩ := cells6 S0.out
  obtain ⟨d0, d1, d2, d3, d4, d5, df⟩ := cells6 S1.out
  go_wp2_with fail
  refine bodyPost_ret (v := .tuple #[.agg #[.string nm, .int .i64 2, .int .i64 0, .string t, .slice none 0 0, .slice none 0 0], .bool ok]) (results_cell_tmp Tryz.results100 rfl rfl (attVar (set6_block ((heap_setCell_other _ _ _ _ (by dsimp only; omega)).trans S1.out)))) rfl ?_
  refine ⟨below_set6 (B1.out.setCell (p := ⟨w.heap.size, 3, none⟩) (Nat.le_refl _) _) (by omega), ⟨nm, 2, 0, t, [], []⟩, _, none, 0, none, 0, ok, rfl, text_att nm 2 (by decide) t, newNone, newNone, liesNone, typNone, rfl, rfl, fun b hr hw hn hk hv => ?_⟩
  obtain ⟨t', hb, hval⟩ := canon_symbol hr hk
  have h1 := trimPrefix_app [64] t'.data.toList
  have hvv : s.data.toList = [64] ++ t'.data.toList := hv.symm.trans hval
  rw [← hvv] at h1
  have h2 : t = t' := bytes_inj (ht.out.trans h1.2)
  rw [hb, hn, h2]
  exact ⟨rfl, hok.out.symm.trans h1.1⟩

set_option maxHeartbeats 1000000 in
set_option maxRecDepth 100000 in
theorem readInt_any (hs : s.size ≤ 281474976710656) (hE : Env w) : Calls Tryz.prog 94 #[attZ nm 0, .string s] w (ReadOut nm 0 s w) := by
  have HE := Lib.hid hE
  clear hE
  obtain ⟨t0, t1, tb⟩ := two_blocks w #[.string nm, .int .i64 0, .int .i64 0, .string ⟨#[]⟩, .slice none 0 0, .slice none 0 0]
  have T0 := Lib.hid t0
  have T1 := Lib.hid t1
  have TB := Lib.hid tb
  clear t0 t1 tb
  go_enter Tryz.func94, Tryz.ntmps94
  go_wp2_with fail
  refine (parseInt_any s hs _ (HE.out.below TB.out)).mono ?_
  rintro e w1 ⟨hb, ⟨z, hz, hp, rfl⟩ | ⟨hno, z, tp, p, hz, rfl⟩⟩
  · have B1 := Lib.hid (TB.out.trans (hb.mono TB.out.size))
    have S0 := Lib.hid ((hb.block _ (lt_of_block T0.out)).trans T0.out)
    have S1 := Lib.hid ((hb.block _ (lt_of_block T1.out)).trans T1.out)
    have HP := Lib.hid hp
    clear hb
    obtain ⟨c0, c1, c2, c3, c4, c5, cf⟩ := cells6 S0.out
    obtain ⟨d0, d1, d2, d3, d4, d5, df⟩ := cells6 S1.out
    go_wp2_with fail
    have R0 := heap_setCell_same _ w.heap.size 2 _ _ (.int .i64 z) S0.out
    have R1 := (heap_setCell_other w1 ⟨w.heap.size, 2, none⟩ (w.heap.size + 1) (.int .i64 z) (by dsimp only; omega)).trans S1.out
    have RB := Lib.hid (B1.out.setCell (p := ⟨w.heap.size, 2, none⟩) (Nat.le_refl _) (.int .i64 z))
    clear c0 c1 c2 c3 c4 c5 cf d0 d1 d2 d3 d4 d5 df
    generalize w1.setCell ⟨w.heap.size, 2, none⟩ (.int .i64 z) = W2 at R0 R1 RB ⊢
    obtain ⟨c0, c1, c2, c3, c4, c5, cf⟩ := cells6 R0
    obtain ⟨d0, d1, d2, d3, d4, d5, df⟩ := cells6 R1
    have HR1 := Lib.hid R1
    clear R0 R1
    go_region
    all_goals
      go_wp2_with fail
      refine bodyPost_ret (v := .tuple #[.agg #[.string nm, .int .i64 0, .int .i64 z, .string ⟨#[]⟩, .slice none 0 0, .slice none 0 0], .bool true]) (results_cell_tmp Tryz.results94 rfl rfl (attVar_drew (set6_block HR1.out))) rfl ?_
      refine ⟨(below_set6 RB.out (by omega)).drew, ⟨nm, 0, z, ⟨#[]⟩, [], []⟩, _, none, 0, none, 0, true, rfl, num_att nm 0 z (by decide) hz, newNone, newNone, liesNone, typNone, rfl, rfl, fun b hr hw hn hk hv => ?_⟩
      obtain ⟨z', hb, hval⟩ := canon_int hr hk
      have hz' : i64 z' := by have := hw.num; rw [hb] at this; exact this
      have h1 := int_back hz'
      rw [← hval, hv] at h1
      have h2 := HP.out.symm.trans h1
      injection h2 with h2
      rw [hb, hn, h2]
      exact ⟨rfl, rfl⟩
  · have B1 := Lib.hid (TB.out.trans (hb.mono TB.out.size))
    have S0 := Lib.hid ((hb.block _ (lt_of_block T0.out)).trans T0.out)
    have S1 := Lib.hid ((hb.block _ (lt_of_block T1.out)).trans T1.out)
    have HN := Lib.hid hno
    clear hb
    obtain ⟨c0, c1, c2, c3, c4, c5, cf⟩ := cells6 S0.out
    obtain ⟨d0, d1, d2, d3, d4, d5, df⟩ := cells6 S1.out
    go_wp2_with fail
    have R0 := heap_setCell_same _ w.heap.size 2 _ _ (.int .i64 z) S0.out
    have R1 := (heap_setCell_other w1 ⟨w.heap.size, 2, none⟩ (w.heap.size + 1) (.int .i64 z) (by dsimp only; omega)).trans S1.out
    have RB := Lib.hid (B1.out.setCell (p := ⟨w.heap.size, 2, none⟩) (Nat.le_refl _) (.int .i64 z))
    clear c0 c1 c2 c3 c4 c5 cf d0 d1 d2 d3 d4 d5 df
    generalize w1.setCell ⟨w.heap.size, 2, none⟩ (.int .i64 z) = W2 at R0 R1 RB ⊢
    obtain ⟨c0, c1, c2, c3, c4, c5, cf⟩ := cells6 R0
    obtain ⟨d0, d1, d2, d3, d4, d5, df⟩ := cells6 R1
    have HR1 := Lib.hid R1
    clear R0 R1
    go_region
    all_goals
      go_wp2_with fail
      refine bodyPost_ret (v := .tuple #[.agg #[.string nm, .int .i64 0, .int .i64 z, .string ⟨#[]⟩, .slice none 0 0, .slice none 0 0], .bool false]) (results_cell_tmp Tryz.results94 rfl rfl (attVar_drew (set6_block HR1.out))) rfl ?_
      refine ⟨(below_set6 RB.out (by omega)).drew, ⟨nm, 0, z, ⟨#[]⟩, [], []⟩, _, none, 0, none, 0, false, rfl, num_att nm 0 z (by decide) hz, newNone, newNone, liesNone, typNone, rfl, rfl, fun b hr hw hn hk hv => ?_⟩
      obtain ⟨z', hb, hval⟩ := canon_int hr hk
      have hz' : i64 z' := by have := hw.num; rw [hb] at this; exact this
      have h1 := int_back hz'
      rw [← hval, hv] at h1
      exact absurd h1 (HN.out z')
end
end Go.Proofs.YtiofnjnaleglgaaGreatDoor

/-
  The reading methods for lists of types and of numbers.
-/
namespace Go.Proofs.YtiofnjnaleglgaaGreatDoor
open Go.RowKit

theorem joinR_inner (ps : List (List UInt8)) : joinR ps = [40] ++ (Lib.join ps gap ++ [41]) := rfl
theorem join_nonempty {ps : List (List UInt8)} (hne : ps ≠ []) (h : ∀ p ∈ ps, p ≠ []) : Lib.join ps gap ≠ [] := by
  cases ps with
  | nil => exact absurd rfl hne
  | cons p ps =>
    rw [Lib.join_cons]
    intro e
    exact h p (by simp) (List.append_eq_nil_iff.1 e).1
theorem ty_ne {l : List UInt8} (h : isTyR l = true) : l ≠ [] := by
  obtain ⟨c, t, e, _⟩ := ty_head h
  rw [e]; simp
theorem map_inj {ps ss : List ByteArray} (h : ps.map (·.data.toList) = ss.map (·.data.toList)) : ps = ss := by
  induction ps generalizing ss with
  | nil => cases ss with
    | nil => rfl
    | cons s ss => cases h
  | cons p ps ih => cases ss with
    | nil => cases h
    | cons s ss =>
      rw [List.map_cons, List.map_cons] at h
      injection h with h1 h2
      rw [bytes_inj h1, ih h2]
/-- The parts of a list of at most a hundred strings without commas. -/
theorem parts_canon {u : List UInt8} {ps : List (List UInt8)} (hne : ps ≠ []) (hc : ∀ p ∈ ps, p.all notComma = true) (h100 : ps.length ≤ 100) (hu : u = Lib.join ps gap) : (splitParts u).map (·.data.toList) = ps := by
  have hl := join_len ps
  rw [← hu] at hl
  exact parts_back ps (min 101 (u.length + 1) - 1) ⟨u.toArray⟩ hne hc (by omega) hu

theorem cell_block {w w' : World} {a : Addr} {v : Value} (h : w.cell? a = some v) (hk : w'.heap[a.block]? = w.heap[a.block]?) : w'.cell? a = some v := by
  unfold World.cell? at h ⊢
  rw [hk]
  exact h
theorem add_block (a : Addr) (j : Nat) : (a.add j).block = a.block := by unfold Addr.add; split <;> rfl
theorem StrsAt.moved {w w' : World} {ao : Option Addr} {ps : List ByteArray} {B : Nat} (h : StrsAt w ao ps) (hn : ∀ a, ao = some a → B ≤ a.block) (hk : ∀ k, B ≤ k → w'.heap[k]? = w.heap[k]?) : StrsAt w' ao ps := by
  rcases h with h | ⟨a, rfl, hc⟩
  · exact .inl h
  · exact .inr ⟨a, rfl, fun j hj => cell_block (hc j hj) (hk _ (by rw [add_block]; exact hn a rfl))⟩
theorem StrsAt.block {w w' : World} {ao : Option Addr} {ps : List ByteArray} (h : StrsAt w ao ps) (hk : ∀ a, ao = some a → w'.heap[a.block]? = w.heap[a.block]?) : StrsAt w' ao ps := by
  rcases h with h | ⟨a, rfl, hc⟩
  · exact .inl h
  · exact .inr ⟨a, rfl, fun j hj => cell_block (hc j hj) (by rw [add_block]; exact hk a rfl)⟩
theorem IntsAt.moved {w w' : World} {ao : Option Addr} {zs : List Int} {B : Nat} (h : IntsAt w ao zs) (hn : ∀ a, ao = some a → B ≤ a.block) (hk : ∀ k, B ≤ k → w'.heap[k]? = w.heap[k]?) : IntsAt w' ao zs := by
  rcases h with h | ⟨a, rfl, hc⟩
  · exact .inl h
  · exact .inr ⟨a, rfl, fun j hj => cell_block (hc j hj) (hk _ (by rw [add_block]; exact hn a rfl))⟩
theorem set6_other {w : World} {b k : Nat} {u0 u1 u2 u3 u4 u5 : Value} (h : k ≠ b) :
    ((((((w.setCell ⟨b, 0, none⟩ u0).setCell ⟨b, 1, none⟩ u1).setCell ⟨b, 2, none⟩ u2).setCell ⟨b, 3, none⟩ u3).setCell ⟨b, 4, none⟩ u4).setCell ⟨b, 5, none⟩ u5).heap[k]? = w.heap[k]? := by
  rw [heap_setCell_other _ _ _ _ h, heap_setCell_other _ _ _ _ h, heap_setCell_other _ _ _ _ h, heap_setCell_other _ _ _ _ h, heap_setCell_other _ _ _ _ h, heap_setCell_other _ _ _ _ h]

theorem splitN_cap (s : ByteArray) (hs : s.size < 4294967281) (w : World) (hE : Env w) : Calls Tryz.prog 125 #[.string s, .string ⟨#[44, 32]⟩, .int .i64 101] w fun e w' =>
    ∃ (ao : Option Addr) (ps : List ByteArray) (c : Nat), e = .returned (.slice ao ps.length c) ∧ Hid (ps = splitParts s.data.toList) ∧ ps.length ≤ c ∧ Hid (StrsAt w' ao ps) ∧ NewAt w ao ∧ TypAt w' ao ∧ Below w.heap.size w w' := by
  obtain ⟨m, hm⟩ := mx_cell hE
  refine (Tryz.strings_SplitN s ⟨#[44, 32]⟩ 101 m w hs hm (by decide) (by omega) (by omega)).mono ?_
  rintro e w' ⟨rfl, rfl⟩
  have e1 : splitParts s.data.toList = Lib.splitB ⟨#[44, 32]⟩ 0 (min 101 (s.size + 1) - 1) s := by
    unfold splitParts
    rw [← size_eq]
  have hlen := splitB_len ⟨#[44, 32]⟩ (min 101 (s.size + 1) - 1) s
  refine ⟨_, splitParts s.data.toList, _, by rw [e1], rfl, by rw [e1]; omega, ?_, fun a e => by cases e; exact Nat.le_refl _, fun a e => by cases e; exact ⟨_, heap_alloc_new _ _⟩, (Below.refl _ _).alloc (Nat.le_refl _) _⟩
  refine .inr ⟨_, rfl, fun j hj => ?_⟩
  rw [Addr.add_lit, Nat.zero_add]
  have hc : (Lib.cellsOf (splitParts s.data.toList) (min 101 (s.size + 1)))[j]? = some (.string ((splitParts s.data.toList)[j]?.getD ByteArray.empty)) := by
    unfold Lib.cellsOf
    rw [List.getElem?_toArray, List.getElem?_append_left (by simpa using hj), List.getElem?_map, List.getElem?_eq_getElem hj]
    rfl
  rw [← e1]
  have hb := heap_alloc_new w (.cells (Lib.cellsOf (splitParts s.data.toList) (min 101 (s.size + 1))) 9)
  rw [cell_of_row _ _ j _ _ _ hb, hc]

/-- What 'types.Split' tells here. -/
def SplitA (s : ByteArray) (w : World) (e : Ending) (w' : World) : Prop := Below w.heap.size w w' ∧
  ∃ (ao : Option Addr) (ps : List ByteArray) (c : Nat) (er : Int), e = .returned (.tuple #[.slice ao ps.length c, .int .i64 er]) ∧ StrsAt w' ao ps ∧ NewAt w ao ∧ TypAt w' ao ∧ ps.length ≤ c ∧ ps.length ≤ 101 ∧
    ∀ ss, tysB ss = true → ss.length ≤ 100 → s.data.toList = joinR (ss.map (·.data.toList)) → ps = ss ∧ er = 0
theorem splitA_nil {s : ByteArray} {w w' : World} {er : Int} (hb : Below w.heap.size w w') (h : ∀ ss, tysB ss = true → ss.length ≤ 100 → s.data.toList = joinR (ss.map (·.data.toList)) → [] = ss ∧ er = 0) :
    SplitA s w (.returned (.tuple #[.slice none 0 0, .int .i64 er])) w' := ⟨hb, none, [], 0, er, rfl, .inl rfl, fun a e => (by cases e), typNone, Nat.le_refl _, by decide, h⟩

set_option maxHeartbeats 1000000 in
set_option maxRecDepth 100000 in
theorem splitA_any (s : ByteArray) (hs : s.size < 4294967281) (w : World) (hE : Env w) : Calls Tryz.prog 127 #[.string s] w (SplitA s w) := by
  have HE := Lib.hid hE
  clear hE
  go_enter Tryz.func127, Tryz.ntmps127
  go_wp2_with fail
  refine (cutPrefix_some _ _ _).mono ?_
  rintro e w1 ⟨t, ok, rfl, ht, hok, rfl⟩
  have hts : t.size < 4294967281 := by
    rw [size_eq, ht.out]; have := Lib.trimPrefix_le s.data.toList [40]; rw [size_eq] at hs; exact Nat.lt_of_le_of_lt this hs
  go_wp2_with fail
  refine (cutSuffix_some _ _ (by omega) _).mono ?_
  rintro e w1 ⟨u, ok2, rfl, hu, hok2, rfl⟩
  have hus : u.size < 4294967281 := by
    rw [size_eq, hu.out]; have := Lib.trimSuffix_le t.data.toList [41]; rw [size_eq] at hts; exact Nat.lt_of_le_of_lt this hts
  have hcan : Hid (∀ ss : List ByteArray, s.data.toList = joinR (ss.map (·.data.toList)) → u.data.toList = Lib.join (ss.map (·.data.toList)) gap ∧ ok = true ∧ ok2 = true) := fun ss hm => by
    rw [joinR_inner] at hm
    have h1 := trimPrefix_app [40] (Lib.join (ss.map (·.data.toList)) gap ++ [41])
    rw [← hm] at h1
    have h1a := ht.out.trans h1.2
    have h1b := hok.out.symm.trans h1.1
    have h2 := trimSuffix_app [41] (Lib.join (ss.map (·.data.toList)) gap)
    rw [← h1a] at h2
    exact ⟨hu.out.trans h2.2, h1b, hok2.out.symm.trans h2.1⟩
  clear ht hok hu hok2
  cases ok
  · have hf := Lib.hid (show SplitA s w (.returned (.tuple #[.slice none 0 0, .int .i64 10])) w from splitA_nil (Below.refl _ _) fun ss _ _ h => by cases (hcan.out ss h).2.1)
    go_wp2_with fail
    go_ret2
    exact hf.out
  cases ok2
  · have hf := Lib.hid (show SplitA s w (.returned (.tuple #[.slice none 0 0, .int .i64 10])) w from splitA_nil (Below.refl _ _) fun ss _ _ h => by cases (hcan.out ss h).2.2)
    go_wp2_with fail
    go_ret2
    exact hf.out
  cases hue : u.toList.isEmpty
  rotate_left
  · have hf := Lib.hid (show SplitA s w (.returned (.tuple #[.slice none 0 0, .int .i64 0])) w from splitA_nil (Below.refl _ _) fun ss hty _ h => by
      refine ⟨?_, rfl⟩
      have h1 := (hcan.out ss h).1
      rw [empty_of hue] at h1
      cases ss with
      | nil => rfl
      | cons a ss => exact absurd h1.symm (join_nonempty (by simp) fun p hp => ty_ne (all_tyR hty p hp)))
    go_wp2_with fail
    go_ret2
    exact hf.out
  have hne := nonempty_of hue
  have HNE := Lib.hid hne
  clear hne
  go_wp2_with fail
  refine (splitN_cap u hus _ HE.out).mono ?_
  rintro e w2 ⟨ao, ps, c, rfl, hps, hcap, hst, hnew, htyp, hb2⟩
  have HTP := Lib.hid htyp
  clear htyp
  have HNW := Lib.hid hnew
  clear hnew
  have HB2 := Lib.hid hb2
  have hlen : ps.length ≤ 101 := by rw [hps.out]; exact parts_len _
  have hcan2 : Hid (∀ ss, tysB ss = true → ss.length ≤ 100 → s.data.toList = joinR (ss.map (·.data.toList)) → ps = ss) := fun ss hty h100 h => by
    have h1 := (hcan.out ss h).1
    have hn : ss ≠ [] := fun e => by rw [e] at h1; exact HNE.out (h1.trans rfl)
    refine map_inj ?_
    rw [hps.out]
    exact parts_canon (fun e => hn (List.map_eq_nil_iff.1 e)) (fun p hp => ty_comma (all_tyR hty p hp)) (by rw [List.length_map]; exact h100) h1
  clear hb2
  by_cases hlong : 100 < ps.length
  · have hli : (100 : Int) < (ps.length : Int) := by omega
    have hf := Lib.hid (show SplitA s w (.returned (.tuple #[.slice none 0 0, .int .i64 10])) w2 from splitA_nil HB2.out fun ss hty h100 h => by
      have := hcan2.out ss hty h100 h
      rw [this] at hlong
      omega)
    go_wp2_with fail
    go_ret2
    exact hf.out
  have hli : ¬ (100 : Int) < (ps.length : Int) := by omega
  go_wp2_with fail
  refine (areTypes_any ao ps c (by omega) _ hst.out (HE.out.below HB2.out)).mono ?_
  rintro e w3 ⟨rfl, hb3⟩
  have HB3 := Lib.hid (HB2.out.trans (hb3.mono HB2.out.size))
  have hst3 := Lib.hid (hst.out.below hb3)
  have HTP3 := Lib.hid (show TypAt w3 ao from fun a e => by obtain ⟨cs, h⟩ := HTP.out a e; exact ⟨cs, (hb3.block _ (lt_of_block h)).trans h⟩)
  clear hb3
  cases hall : ps.all (fun s => isTy s.data.toList)
  · have hf := Lib.hid (show SplitA s w (.returned (.tuple #[.slice none 0 0, .int .i64 10])) w3 from splitA_nil HB3.out fun ss hty h100 h => by
      have := hcan2.out ss hty h100 h
      rw [this] at hall
      exact absurd (hall.symm.trans hty) (by decide))
    clear hall
    go_wp2_with fail
    go_ret2
    exact hf.out
  · have hf := Lib.hid (show SplitA s w (.returned (.tuple #[.slice ao ps.length c, .int .i64 0])) w3 from ⟨HB3.out, ao, ps, c, 0, rfl, hst3.out, HNW.out, HTP3.out, hcap, hlen, fun ss hty h100 h => ⟨hcan2.out ss hty h100 h, rfl⟩⟩)
    clear hall
    go_wp2_with fail
    go_ret2
    exact hf.out

set_option maxHeartbeats 1000000 in
set_option maxRecDepth 100000 in
theorem readTypes_any (nm s : ByteArray) (w : World) (hs : s.size < 4294967281) (hE : Env w) : Calls Tryz.prog 109 #[attZ nm 5, .string s] w (ReadOut nm 5 s w) := by
  have HE := Lib.hid hE
  clear hE
  obtain ⟨t0, t1, tb⟩ := two_blocks w #[.string nm, .int .i64 5, .int .i64 0, .string ⟨#[]⟩, .slice none 0 0, .slice none 0 0]
  have T0 := Lib.hid t0
  have T1 := Lib.hid t1
  have TB := Lib.hid tb
  clear t0 t1 tb
  go_enter Tryz.func109, Tryz.ntmps109
  go_wp2_with fail
  refine (splitA_any s hs _ (HE.out.below TB.out)).mono ?_
  rintro e w1 ⟨hb, ao, ps, c, er, rfl, hst, hnew, htyp, hcap, hlen, hcan⟩
  have HTP := Lib.hid htyp
  clear htyp
  have HNW := Lib.hid hnew
  clear hnew
  have B1 := Lib.hid (TB.out.trans (hb.mono TB.out.size))
  have S0 := Lib.hid ((hb.block _ (lt_of_block T0.out)).trans T0.out)
  have S1 := Lib.hid ((hb.block _ (lt_of_block T1.out)).trans T1.out)
  have HST := Lib.hid hst
  have HC := Lib.hid hcan
  have hdec : (er == 0) = decide (er = 0) := by by_cases h : er = 0 <;> simp [h]
  have HD := Lib.hid hdec
  clear hb hst hcan hdec
  obtain ⟨c0, c1, c2, c3, c4, c5, cf⟩ := cells6 S0.out
  obtain ⟨d0, d1, d2, d3, d4, d5, df⟩ := cells6 S1.out
  go_wp2_with fail
  refine bodyPost_ret (v := .tuple #[.agg #[.string nm, .int .i64 5, .int .i64 0, .string ⟨#[]⟩, .slice none 0 0, .slice ao ps.length c], .bool (er == 0)]) (results_cell_tmp Tryz.results109 rfl rfl (attVar (set6_block ((heap_setCell_other _ _ _ _ (by dsimp only; omega)).trans S1.out)))) rfl ?_
  have hk : ∀ k, w.heap.size + 2 ≤ k → _ = w1.heap[k]? := fun k hk => (set6_other (u0 := .string nm) (u1 := .int .i64 5) (u2 := .int .i64 0) (u3 := .string ⟨#[]⟩) (u4 := .slice none 0 0) (u5 := .slice ao ps.length c) (w := w1.setCell ⟨w.heap.size, 5, none⟩ (.slice ao ps.length c)) (b := w.heap.size + 1) (by omega)).trans (heap_setCell_other _ _ _ _ (by dsimp only; omega))
  refine ⟨below_set6 (B1.out.setCell (p := ⟨w.heap.size, 5, none⟩) (Nat.le_refl _) _) (by omega), ⟨nm, 5, 0, ⟨#[]⟩, [], ps⟩, _, none, 0, ao, c, (er == 0), rfl,
    ⟨rfl, .inl rfl, HST.out.moved (B := w.heap.size + 2) (fun a e => by have := HNW.out a e; simpa using this) hk, Nat.le_refl _, hcap, ⟨(by decide : i64 5), (by decide : i64 0), fun _ h => (by cases h), Nat.zero_le _, by dsimp only; omega⟩⟩, newNone, fun a e => (by have := HNW.out a e; simp at this; omega), liesNone, fun a e => (by obtain ⟨cs, h⟩ := HTP.out a e; exact ⟨cs, (hk _ (by have := HNW.out a e; simp at this; omega)).trans h⟩), rfl, rfl, fun b hr hw hn hkk hv => ?_⟩
  obtain ⟨ss, hb, hval, h100, hty⟩ := canon_types hr hkk
  obtain ⟨h1, h2⟩ := HC.out ss hty h100 (hv.symm.trans hval)
  rw [hb, hn, h1, h2]
  exact ⟨rfl, rfl⟩
end Go.Proofs.YtiofnjnaleglgaaGreatDoor

/-
  The reading method for lists of numbers.
-/
namespace Go.Proofs.YtiofnjnaleglgaaGreatDoor
open Go.RowKit

theorem info_i64 : ∃ i, Tryz.prog.info? 2 = some i ∧ i.zero = some (.int .i64 0) ∧ i.size = 1 ∧ i.bytes = 8 := by
  have h1 : (Tryz.prog.info? 2).map (·.zero) = some (some (.int .i64 0)) := by kernel_rfl
  have h2 : (Tryz.prog.info? 2).map (·.size) = some 1 := by kernel_rfl
  have h3 : (Tryz.prog.info? 2).map (·.bytes) = some 8 := by kernel_rfl
  cases hi : Tryz.prog.info? 2 with
  | none => rw [hi] at h1; cases h1
  | some i =>
    rw [hi] at h1 h2 h3
    exact ⟨i, rfl, Option.some.inj h1, Option.some.inj h2, Option.some.inj h3⟩

/-- One number is appended to a slice of the call's own; no block of another type turns. -/
theorem append_i64_run {w : World} {B : Nat} {ao : Option Addr} {c : Nat} {es : List Int} (h : w.ownsRow B 2 1 (.slice ao es.length c) es.length (es.map (.int .i64))) (hB : B ≤ w.heap.size) (h3 : es.length ≤ 2000000) (x : Int) (T : TypeId) {ty : TypeId} :
    ∃ ao' c' w', (Builtin.append_ #[26, 26] ty #[.slice ao es.length c, .slice (some ⟨w.heap.size, 0, none⟩) 1 1]).run Tryz.prog (w.alloc (.cells #[.int .i64 x] T)) = .ok (.slice ao' (es.length + 1) c') w' ∧
      w'.ownsRow B 2 1 (.slice ao' (es ++ [x]).length c') (es ++ [x]).length ((es ++ [x]).map (.int .i64)) ∧ Below B w w' ∧ (∀ (k : Nat) (cs : Array Value) (t : TypeId) (fr : Nat × Nat), w.heap[k]? = some (.cells cs t fr) → t ≠ 2 → w'.heap[k]? = some (.cells cs t fr)) := by
  obtain ⟨i, hi, hz, hsz, hby⟩ := info_i64
  have hown : (w.alloc (.cells #[.int .i64 x] T)).ownsRow B 2 1 (.slice ao es.length c) es.length (es.map (.int .i64)) := by
    refine ⟨h.1, ?_⟩
    rcases h.2 with h | ⟨g, c', cur, hv, hb, hg, hr⟩
    · exact .inl h
    · exact .inr ⟨g, c', cur, hv, hb, (Below.heap_alloc _ _ _ (lt_of_block hg)).trans hg, hr⟩
  have hcell : ∀ j u, [Value.int .i64 x][j]? = some u → (w.alloc (.cells #[.int .i64 x] T)).cell? ((⟨w.heap.size, 0, none⟩ : Addr).add j) = some u := by
    intro j u hj
    cases j with
    | zero =>
      simp only [List.getElem?_cons_zero, Option.some.injEq] at hj
      subst hj
      rw [Addr.add_lit, cell_of_row _ _ _ _ _ _ (heap_alloc_new _ _)]
      rfl
    | succ j => simp at hj
  obtain ⟨v', w', hr, h1, h2, _, _⟩ := run_append_own_at (P := Tryz.prog) (w.alloc (.cells #[.int .i64 x] T)) B 26 ty 2 i (.int .i64 0) 1 8 Tryz.underlying26 hi hz hsz hby rfl (by decide)
    (.slice ao es.length c) es.length (es.map (.int .i64)) hown ⟨w.heap.size, 0, none⟩ 1 1 [.int .i64 x] rfl hcell (fun u hu => by simp only [List.mem_singleton] at hu; subst hu; rfl) (by simp only [maxLen]; omega) (by omega) (by simp; omega)
  obtain ⟨ao', c', rfl⟩ := own_slice h1
  refine ⟨ao', c', w', hr, ?_, ?_, ?_⟩
  · rw [List.length_append, List.map_append]
    exact h1
  · refine ⟨h2.os.trans rfl, h2.tape.trans rfl, h2.output.trans rfl, ?_, fun k hk => ?_⟩
    · have := h2.size; simp at this; omega
    · rw [h2.block k (by simp; omega) (fun e => by
        have := own_below hown e.symm
        omega)]
      exact Below.heap_alloc _ _ _ (by omega)
  · intro k cs t fr hk ht
    rw [h2.block k (by simp; have := lt_of_block hk; omega) (fun e => by
      rcases h.2 with ⟨hv, _⟩ | ⟨g, c', cur, hv, _, hg, _⟩
      · rw [hv] at e; cases e
      · rw [hv] at e
        cases e
        rw [hg] at hk
        cases hk
        exact ht rfl)]
    exact (Below.heap_alloc _ _ _ (lt_of_block hk)).trans hk

theorem wp_append_i64 {ops : Array Oper} {rest : List Oper} {o : Oper} {a : Act} {Q : Exit → Act → World → Prop} {w : World} (hgd : o.guard = none) (s x : Operand)
    (ho : o.op = .call { callee := .builtin .append, args := #[s, x], argTypes := #[26, 26] }) {B : Nat} {ao : Option Addr} {c : Nat} {es : List Int} {n : Int}
    (h : w.ownsRow B 2 1 (.slice ao es.length c) es.length (es.map (.int .i64))) (hB : B ≤ w.heap.size) (h3 : es.length ≤ 2000000) (hs : a.eval s = .slice ao es.length c) (hx : a.eval x = .slice (some ⟨w.heap.size, 0, none⟩) 1 1)
    (hk : ∀ ao' c' w', w'.ownsRow B 2 1 (.slice ao' (es ++ [n]).length c') (es ++ [n]).length ((es ++ [n]).map (.int .i64)) → Below B w w' →
      (∀ (k : Nat) (cs : Array Value) (t : TypeId) (fr : Nat × Nat), w.heap[k]? = some (.cells cs t fr) → t ≠ 2 → w'.heap[k]? = some (.cells cs t fr)) → wpList Tryz.prog ops Q rest (a.put o.dst (.slice ao' (es.length + 1) c')) w') :
    wpList Tryz.prog ops Q (o :: rest) a (w.alloc (.cells #[.int .i64 n] 2)) := by
  obtain ⟨ao', c', w', hr, h1, h2, h4⟩ := append_i64_run (ty := o.type) h hB h3 n 2
  refine wpList_plain hgd fun K hK => ?_
  unfold Oper.wp execOp
  simp only [ho, resolve, invoke, builtin, Sem.run_bind, Sem.run_pure, Result.andThen_ok, List.map_toArray, List.map_cons, List.map_nil, hs, hx, hr]
  exact hK _ _ (hk ao' c' w' h1 h2 h4)

theorem own_i64 {w : World} {B n : Nat} {ao : Option Addr} {c : Nat} {es : List Int} (h : w.ownsRow B 2 1 (.slice ao n c) n (es.map (.int .i64))) (hn : n = es.length) : IntsAt w ao es := by
  rcases h.2 with ⟨_, h0⟩ | ⟨g, c', cur, hv, _, hg, _, _, _, hcur⟩
  · rw [h0] at hn
    exact .inl (List.eq_nil_of_length_eq_zero hn.symm)
  · cases hv
    refine .inr ⟨_, rfl, fun j hj => ?_⟩
    have h1 : (cur.toList.take (n * 1))[j]? = some (.int .i64 (es[j]?.getD 0)) := by
      rw [hcur, List.getElem?_map, List.getElem?_eq_getElem hj]; rfl
    rw [List.getElem?_take_of_lt (by omega)] at h1
    rw [Addr.add_lit, cell_of_row _ _ _ _ _ _ hg]
    simpa using h1
theorem own_new {w : World} {B n : Nat} {e : TypeId} {ao : Option Addr} {c : Nat} {xs : List Value} (h : w.ownsRow B e 1 (.slice ao n c) n xs) : ∀ a, ao = some a → B ≤ a.block := by
  rintro a rfl
  rcases h.2 with ⟨hv, _⟩ | ⟨g, c', cur, hv, hB, _⟩
  · cases hv
  · cases hv; exact hB

theorem own_lies {w : World} {B n : Nat} {e : TypeId} {ao : Option Addr} {c : Nat} {xs : List Value} (h : w.ownsRow B e 1 (.slice ao n c) n xs) : ∀ a, ao = some a → ∃ cs, w.heap[a.block]? = some (.cells cs e (0, 0)) := by
  rintro a rfl
  rcases h.2 with ⟨hv, _⟩ | ⟨g, c', cur, hv, _, hg, _⟩
  · cases hv
  · cases hv; exact ⟨cur, hg⟩
theorem intsL_inner (zs : List Int) : intsL zs = [91] ++ (Lib.join (zs.map Lib.itoa) gap ++ [93]) := rfl
theorem itoa_comma (z : Int) : (Lib.itoa z).all notComma = true := by
  rw [List.all_eq_true]
  intro c hc
  have h := (itoa_in z c hc).2.1
  refine (comma_iff c).2 (fun e => ?_)
  subst e
  exact absurd h (by decide)
theorem itoa_ne (z : Int) : Lib.itoa z ≠ [] := by
  obtain ⟨c, t, e, _⟩ := itoa_head z
  rw [e]; simp
theorem ints_att {W : World} (nm : ByteArray) (ao : Option Addr) (c : Nat) (es : List Int) (hi : IntsAt W ao es) (hc : es.length ≤ c) (h64 : ∀ z ∈ es, i64 z) (hl : es.length ≤ 1000) :
    AttAt W ⟨nm, 4, 0, ⟨#[]⟩, es, []⟩ (.agg #[.string nm, .int .i64 4, .int .i64 0, .string ⟨#[]⟩, .slice ao es.length c, .slice none 0 0]) ao c none 0 :=
  ⟨rfl, hi, .inl rfl, hc, Nat.le_refl _, ⟨(by decide : i64 4), (by decide : i64 0), h64, by dsimp only; omega, Nat.zero_le _⟩⟩
theorem splitParts_one (s : ByteArray) {p : ByteArray} (hp : p ∈ splitParts s.data.toList) : p.size ≤ s.size := by
  have key : ∀ (k : Nat) (u : ByteArray), ∀ p ∈ Lib.splitB ⟨#[44, 32]⟩ 0 k u, p.size ≤ u.size := by
    intro k
    induction k with
    | zero => intro u p hp; simp only [Lib.splitB, List.mem_singleton] at hp; rw [hp]; exact Nat.le_refl _
    | succ k ih =>
      intro u p hp
      unfold Lib.splitB at hp
      split at hp
      · simp only [List.mem_singleton] at hp; rw [hp]; exact Nat.le_refl _
      · rcases List.mem_cons.1 hp with h | h
        · rw [h, ByteArray.size_extract]; omega
        · have := ih _ p h
          rw [ByteArray.size_extract] at this
          omega
  have := key _ _ p hp
  have e : (⟨s.data.toList.toArray⟩ : ByteArray).size = s.size := by rw [mk_size, ← size_eq]
  omega

set_option maxHeartbeats 4000000 in
set_option maxRecDepth 100000 in
theorem readInts_any (nm s : ByteArray) (w : World) (hs : s.size < 4294967281) (hE : Env w) : Calls Tryz.prog 106 #[attZ nm 4, .string s] w (ReadOut nm 4 s w) := by
  have HE := Lib.hid hE
  clear hE
  obtain ⟨t0, t1, tb⟩ := two_blocks w #[.string nm, .int .i64 4, .int .i64 0, .string ⟨#[]⟩, .slice none 0 0, .slice none 0 0]
  have T0 := Lib.hid t0
  have T1 := Lib.hid t1
  have TB := Lib.hid tb
  clear t0 t1 tb
  go_enter Tryz.func106, Tryz.ntmps106
  go_wp2_with fail
  refine (inside_any s ⟨#[91]⟩ ⟨#[93]⟩ (by omega) _).mono ?_
  rintro e w1 ⟨u, ok, rfl, hu, hin, rfl⟩
  have HIN := Lib.hid (show ∀ zs : List Int, s.data.toList = intsL zs → u.data.toList = Lib.join (zs.map Lib.itoa) gap ∧ ok = true from fun zs h => hin _ h)
  clear hin
  obtain ⟨c0, c1, c2, c3, c4, c5, cf⟩ := cells6 T0.out
  obtain ⟨d0, d1, d2, d3, d4, d5, df⟩ := cells6 T1.out
  have hend : ∀ ok' : Bool, (∀ zs : List Int, zs.length ≤ 100 → (∀ z ∈ zs, i64 z) → s.data.toList = intsL zs → [] = zs ∧ ok' = true) → Hid (ReadOut nm 4 s w (.returned (.tuple #[.agg #[.string nm, .int .i64 4, .int .i64 0, .string ⟨#[]⟩, .slice none 0 0, .slice none 0 0], .bool ok']))
      ((w.alloc (.cells #[.string nm, .int .i64 4, .int .i64 0, .string ⟨#[]⟩, .slice none 0 0, .slice none 0 0] 74)).alloc (.cells #[.string nm, .int .i64 4, .int .i64 0, .string ⟨#[]⟩, .slice none 0 0, .slice none 0 0] 74))) := fun ok' h =>
    ⟨((Below.refl _ _).alloc (Nat.le_refl _) _).alloc (by simp) _, ⟨nm, 4, 0, ⟨#[]⟩, [], []⟩, _, none, 0, none, 0, ok', rfl, ints_att nm none 0 [] (.inl rfl) (Nat.le_refl _) (fun _ h => (by cases h)) (by decide), newNone, newNone, liesNone, typNone, rfl, rfl, fun b hr hw hn hk hv => by
      obtain ⟨zs, hb, hval, h100⟩ := canon_ints hr hk
      obtain ⟨h1, h2⟩ := h zs h100 (by have := hw.ints; rw [hb] at this; exact this) (hv.symm.trans hval)
      rw [hb, hn, ← h1]
      exact ⟨rfl, h2⟩⟩
  have HEND := Lib.hid hend
  clear hend
  cases ok
  · have hf := HEND.out false (fun zs _ _ h => by cases (HIN.out zs h).2)
    clear c0 c1 c2 c3 c4 c5 cf d0 d1 d2 d3 d4 d5 df
    go_wp2_with fail
    refine bodyPost_ret (v := .tuple #[.agg #[.string nm, .int .i64 4, .int .i64 0, .string ⟨#[]⟩, .slice none 0 0, .slice none 0 0], .bool false]) (results_cell_tmp Tryz.results106 rfl rfl (attVar (by
      have := heap_alloc_new (w.alloc (.cells #[.string nm, .int .i64 4, .int .i64 0, .string ⟨#[]⟩, .slice none 0 0, .slice none 0 0] 74)) (.cells #[.string nm, .int .i64 4, .int .i64 0, .string ⟨#[]⟩, .slice none 0 0, .slice none 0 0] 74)
      simpa using this))) rfl ?_
    exact hf.out
  by_cases hue : u = ByteArray.empty
  · subst hue
    have hf := HEND.out true (fun zs _ _ h => by
      refine ⟨?_, rfl⟩
      have h1 := (HIN.out zs h).1
      cases zs with
      | nil => rfl
      | cons z zs => exact absurd h1.symm (join_nonempty (by simp) fun p hp => by
          obtain ⟨y, _, rfl⟩ := List.mem_map.1 hp
          exact itoa_ne y))
    clear c0 c1 c2 c3 c4 c5 cf d0 d1 d2 d3 d4 d5 df
    go_wp2_with fail
    refine bodyPost_ret (v := .tuple #[.agg #[.string nm, .int .i64 4, .int .i64 0, .string ⟨#[]⟩, .slice none 0 0, .slice none 0 0], .bool true]) (results_cell_tmp Tryz.results106 rfl rfl (attVar (by
      have := heap_alloc_new (w.alloc (.cells #[.string nm, .int .i64 4, .int .i64 0, .string ⟨#[]⟩, .slice none 0 0, .slice none 0 0] 74)) (.cells #[.string nm, .int .i64 4, .int .i64 0, .string ⟨#[]⟩, .slice none 0 0, .slice none 0 0] 74)
      simpa using this))) rfl ?_
    exact hf.out
  have hue2 := toList_ne hue
  have hue3 : u.toList.isEmpty = false := by
    cases hx : u.toList.isEmpty with
    | false => rfl
    | true => exact absurd (by simpa using hx) hue2
  clear HEND c0 c1 c2 c3 c4 c5 cf d0 d1 d2 d3 d4 d5 df
  go_wp2_with fail
  refine (splitN_cap u (by omega) _ (HE.out.below TB.out)).mono ?_
  rintro e w2 ⟨ao, ps, cp, rfl, hps, hcap, hst, hnew, htyp, hb⟩
  have B2 := Lib.hid (TB.out.trans (hb.mono TB.out.size))
  have S0 := Lib.hid ((hb.block _ (lt_of_block T0.out)).trans T0.out)
  have S1 := Lib.hid ((hb.block _ (lt_of_block T1.out)).trans T1.out)
  have hsz2 := Lib.hid (show w.heap.size + 2 ≤ w2.heap.size by have := hb.size; simp at this; omega)
  have HNW := Lib.hid (show ∀ a, ao = some a → w.heap.size + 2 ≤ a.block from fun a e => by have := hnew a e; simpa using this)
  have HTY := Lib.hid htyp
  have HPS := Lib.hid (show ∀ zs : List Int, zs.length ≤ 100 → s.data.toList = intsL zs → ps = zs.map itoaB from fun zs h100 h => by
    have h1 := (HIN.out zs h).1
    have hn : zs.map Lib.itoa ≠ [] := fun e => by
      rw [e] at h1
      apply hue2
      rw [toList_data]
      exact h1
    refine map_inj ?_
    rw [hps.out, parts_canon hn (fun p hp => by obtain ⟨z, _, rfl⟩ := List.mem_map.1 hp; exact itoa_comma z) (by rw [List.length_map]; exact h100) h1, List.map_map]
    rfl)
  have HPL := Lib.hid (show ps.length ≤ 101 by rw [hps.out]; exact parts_len _)
  have HPZ := Lib.hid (show ∀ p ∈ ps, p.size ≤ s.size from fun p hp => Nat.le_trans (splitParts_one u (by rw [← hps.out]; exact hp)) hu)
  clear hb hnew htyp hps hcap
  go_wp2_with fail
  go_loopw [28] (fun v28 wr => ∃ (q : Nat) (es : List Int) (a4 : Option Addr) (c4 : Nat), q ≤ ps.length ∧ v28 = .int .i64 q ∧
    Hid (wr.heap[w.heap.size]? = some (.cells #[.string nm, .int .i64 4, .int .i64 0, .string ⟨#[]⟩, .slice a4 es.length c4, .slice none 0 0] 74 (0, 0)) ∧
      wr.heap[w.heap.size + 1]? = some (.cells #[.string ⟨#[]⟩, .int .i64 0, .int .i64 0, .string ⟨#[]⟩, .slice none 0 0, .slice none 0 0] 74 (0, 0)) ∧
      es.length = q ∧ (∀ z ∈ es, i64 z) ∧ wr.ownsRow (w.heap.size + 2) 2 1 (.slice a4 es.length c4) es.length (es.map (.int .i64)) ∧ Below w.heap.size w wr ∧ w.heap.size + 2 ≤ wr.heap.size ∧ StrsAt wr ao ps ∧ TypAt wr ao ∧
      ∀ zs : List Int, zs.length ≤ 100 → (∀ z ∈ zs, i64 z) → s.data.toList = intsL zs → es = zs.take q)) (fun v28 _ => ps.length - (intOf v28).toNat)
  case atStart => exact ⟨0, [], none, 0, Nat.zero_le _, rfl, S0.out, S1.out, rfl, fun _ h => (by cases h), World.ownsRow_nil _ _ _ _, B2.out, hsz2.out, hst.out, HTY.out, fun zs _ _ _ => rfl⟩
  case round =>
    obtain ⟨q, es, a4, c4, hq, rfl, hh⟩ := hrel
    have hpl0 := HPL.out
    obtain ⟨h0, h1, hel, he64, hown, hbel, hsz, hsta, htya, hcan⟩ := hh.out
    clear hh
    have H0 := Lib.hid h0
    have H1 := Lib.hid h1
    have HEL := Lib.hid hel
    have H64 := Lib.hid he64
    have HOWN := Lib.hid hown
    have HBEL := Lib.hid hbel
    have HSZ := Lib.hid hsz
    have HSTA := Lib.hid hsta
    have HTYA := Lib.hid htya
    have HCAN := Lib.hid hcan
    clear h0 h1 hel he64 hown hbel hsz hsta htya hcan
    by_cases hlt : q < ps.length
    · rcases HSTA.out with hz | ⟨a, rfl, hc⟩
      · rw [hz] at hlt; exact absurd hlt (Nat.not_lt_zero _)
      have hcm := hc q hlt
      clear hc
      obtain ⟨p, hp⟩ : ∃ p, p = ps[q]?.getD ByteArray.empty := ⟨_, rfl⟩
      rw [← hp] at hcm
      have hpm : p ∈ ps := by rw [hp, List.getElem?_eq_getElem hlt]; exact List.getElem_mem hlt
      have hpz := HPZ.out p hpm
      have HP := Lib.hid (show ∀ zs : List Int, zs.length ≤ 100 → s.data.toList = intsL zs → ∃ z, zs[q]? = some z ∧ p.data.toList = Lib.itoa z from fun zs h100 h => by
        have e := HPS.out zs h100 h
        rw [e, List.length_map] at hlt
        refine ⟨zs[q], List.getElem?_eq_getElem hlt, ?_⟩
        rw [hp, e, List.getElem?_map, List.getElem?_eq_getElem hlt]
        rfl)
      clear hp hpm
      go_wp2_with fail
      refine (parseInt_any p (by omega) _ (HE.out.below HBEL.out)).mono ?_
      rintro e w3 ⟨hb, ⟨z, hz, hpp, rfl⟩ | ⟨hno, z, tp, pp, hz, rfl⟩⟩
      · have G0 := (hb.block _ (lt_of_block H0.out)).trans H0.out
        have G1 := Lib.hid ((hb.block _ (lt_of_block H1.out)).trans H1.out)
        have GB := Lib.hid (HBEL.out.trans (hb.mono HBEL.out.size))
        have GS := Lib.hid (Nat.le_trans HSZ.out hb.size)
        have GO := Lib.hid (own_under HOWN.out hb)
        have GST := Lib.hid (HSTA.out.below hb)
        have GTY := Lib.hid (show TypAt w3 (some a) from fun a' e => by
          obtain ⟨cs, h⟩ := HTYA.out a' e
          exact ⟨cs, (hb.block _ (lt_of_block h)).trans h⟩)
        have HPP := Lib.hid hpp
        have HZ := Lib.hid hz
        obtain ⟨c0, c1, c2, c3, c4', c5, cf⟩ := cells6 G0
        have HG0 := Lib.hid G0
        clear hb hcm hpp hz G0
        go_wp2_with (at_builtin; refine wp_append_i64 rfl _ _ rfl GO.out GS.out (by have := HEL.out; have := HPL.out; omega) rfl rfl ?_; intro a5 c5' w4 hown hbel hkeep; have GB4 := Lib.hid (GB.out.trans (hbel.mono (by have := GS.out; omega))); have GS4 := Lib.hid (Nat.le_trans GS.out hbel.size); have G04 := hkeep _ _ _ _ HG0.out (by decide); have G14 := Lib.hid (hkeep _ _ _ _ G1.out (by decide)); have HG04 := Lib.hid G04; have GO4 := Lib.hid hown; have GK4 := Lib.hid hkeep; obtain ⟨b0, b1, b2, b3, b4, b5, bf⟩ := cells6 G04; clear hown hbel hkeep G04 c0 c1 c2 c3 c4' c5 cf)
        go_roundw
        case rel =>
          have hpl := HPL.out
          have hels := HEL.out
          have hkk : ∀ k, w.heap.size + 2 ≤ k → (w4.setCell ⟨w.heap.size, 4, none⟩ (.slice a5 (es.length + 1) c5')).heap[k]? = w4.heap[k]? := fun k hk => heap_setCell_other _ _ _ _ (by dsimp only; omega)
          refine ⟨q + 1, es ++ [z], a5, c5', by omega, by go_num, ?_, ?_, by rw [List.length_append, hels]; rfl, ?_, own_kept GO4.out hkk, GB4.out.setCell (Nat.le_refl _) _, by rw [setCell_size]; exact GS4.out, ?_, ?_, ?_⟩
          · refine (heap_setCell_same _ _ 4 _ _ _ HG04.out).trans ?_
            rw [List.length_append]
            rfl
          · exact (heap_setCell_other _ _ _ _ (by dsimp only; omega)).trans G14.out
          · intro y hy
            rcases List.mem_append.1 hy with hy | hy
            · exact H64.out y hy
            · simp only [List.mem_singleton] at hy
              rw [hy]; exact HZ.out
          · obtain ⟨cs, htc⟩ := GTY.out a rfl
            exact GST.out.block fun a' e => by
              cases e
              rw [hkk _ (HNW.out a rfl), GK4.out _ _ _ _ htc (by decide), htc]
          · intro a' e
            cases e
            obtain ⟨cs, htc⟩ := GTY.out a rfl
            exact ⟨cs, by rw [hkk _ (HNW.out a rfl)]; exact GK4.out _ _ _ _ htc (by decide)⟩
          · intro zs h100 h64 h
            obtain ⟨z', hz', hp'⟩ := HP.out zs h100 h
            have hpz' := HPP.out
            rw [hp', int_back (h64 z' (List.mem_of_getElem? hz'))] at hpz'
            injection hpz' with hpz'
            rw [HCAN.out zs h100 h64 h, List.take_add_one, hz', hpz']
            rfl
        case measure =>
          have hpl := HPL.out
          simp [intOf]; omega
      · have G0 := (hb.block _ (lt_of_block H0.out)).trans H0.out
        have G1 := (hb.block _ (lt_of_block H1.out)).trans H1.out
        have GB := Lib.hid (HBEL.out.trans (hb.mono HBEL.out.size))
        have GO := Lib.hid (own_under HOWN.out hb)
        have HNO := Lib.hid hno
        obtain ⟨c0, c1, c2, c3, c4', c5, cf⟩ := cells6 G0
        obtain ⟨d0, d1, d2, d3, d4, d5, df⟩ := cells6 G1
        have HG1 := Lib.hid G1
        clear hb hcm hno G0 G1
        go_wp2_with fail
        refine bodyPost_ret (v := .tuple #[.agg #[.string nm, .int .i64 4, .int .i64 0, .string ⟨#[]⟩, .slice a4 es.length c4, .slice none 0 0], .bool false]) (results_cell_tmp Tryz.results106 rfl rfl (attVar (set6_block HG1.out))) rfl ?_
        have hpl := HPL.out
        have hels := HEL.out
        refine ⟨below_set6 GB.out (by omega), ⟨nm, 4, 0, ⟨#[]⟩, es, []⟩, _, a4, c4, none, 0, false, rfl,
          ints_att nm a4 c4 es ((own_i64 GO.out rfl).moved (own_new GO.out) fun k hk => set6_other (by omega)) (own_cap GO.out) H64.out (by omega), fun x e => (by have := own_new GO.out x e; omega), newNone, fun x e => (by obtain ⟨cs, h⟩ := own_lies GO.out x e; exact ⟨cs, (set6_other (by have := own_new GO.out x e; omega)).trans h⟩), typNone, rfl, rfl, fun b hr hw hn hk hv => ?_⟩
        obtain ⟨zs, hb, hval, h100⟩ := canon_ints hr hk
        have h64 : ∀ z ∈ zs, i64 z := by have := hw.ints; rw [hb] at this; exact this
        obtain ⟨z', hz', hp'⟩ := HP.out zs h100 (hv.symm.trans hval)
        have := HNO.out z'
        rw [hp', int_back (h64 z' (List.mem_of_getElem? hz'))] at this
        exact absurd rfl this
    · obtain rfl : q = ps.length := by omega
      obtain ⟨c0, c1, c2, c3, c4', c5, cf⟩ := cells6 H0.out
      obtain ⟨d0, d1, d2, d3, d4, d5, df⟩ := cells6 H1.out
      go_wp2_with fail
      refine bodyPost_ret (v := .tuple #[.agg #[.string nm, .int .i64 4, .int .i64 0, .string ⟨#[]⟩, .slice a4 es.length c4, .slice none 0 0], .bool true]) (results_cell_tmp Tryz.results106 rfl rfl (attVar (set6_block H1.out))) rfl ?_
      have hpl := HPL.out
      have hels := HEL.out
      refine ⟨below_set6 HBEL.out (by omega), ⟨nm, 4, 0, ⟨#[]⟩, es, []⟩, _, a4, c4, none, 0, true, rfl,
        ints_att nm a4 c4 es ((own_i64 HOWN.out rfl).moved (own_new HOWN.out) fun k hk => set6_other (by omega)) (own_cap HOWN.out) H64.out (by omega), fun x e => (by have := own_new HOWN.out x e; omega), newNone, fun x e => (by obtain ⟨cs, h⟩ := own_lies HOWN.out x e; exact ⟨cs, (set6_other (by have := own_new HOWN.out x e; omega)).trans h⟩), typNone, rfl, rfl, fun b hr hw hn hk hv => ?_⟩
      obtain ⟨zs, hb, hval, h100⟩ := canon_ints hr hk
      have h64 : ∀ z ∈ zs, i64 z := by have := hw.ints; rw [hb] at this; exact this
      have e1 := HCAN.out zs h100 h64 (hv.symm.trans hval)
      have e2 := HPS.out zs h100 (hv.symm.trans hval)
      rw [List.take_of_length_le (by rw [e2, List.length_map]; exact Nat.le_refl _)] at e1
      rw [hb, hn, e1]
      exact ⟨rfl, rfl⟩
end Go.Proofs.YtiofnjnaleglgaaGreatDoor

/-
  'kindOfValue' and 'readAttribute' by contracts: the right attribute that a string is the value of, if there is one.
-/
namespace Go.Proofs.YtiofnjnaleglgaaGreatDoor
open Go.RowKit

theorem kind_read {nm s : ByteArray} {k : Int} (hk : 0 ≤ k ∧ k ≤ 5) (hs : s.size < 4294967281) (w : World) (hE : Env w) : Calls Tryz.prog (readF (kindNo k)) #[attZ nm k, .string s] w (ReadOut nm k s w) := by
  unfold kindNo
  rw [if_pos hk]
  rcases (show k = 0 ∨ k = 1 ∨ k = 2 ∨ k = 3 ∨ k = 4 ∨ k = 5 by omega) with rfl | rfl | rfl | rfl | rfl | rfl
  · exact readInt_any nm s w (by omega) hE
  · exact readText_any nm s w (by omega) hE
  · exact readSymbol_any nm s w
  · exact readType_any nm s w
  · exact readInts_any nm s w hs hE
  · exact readTypes_any nm s w hs hE
theorem kindL_range (v : List UInt8) : 0 ≤ kindL v ∧ kindL v ≤ 5 := by
  unfold kindL
  split
  · omega
  · split
    · omega
    split
    · omega
    split
    · omega
    split
    · omega
    split <;> omega

def KovPost (s : ByteArray) (w : World) (e : Ending) (w' : World) : Prop := e = .returned (.int .i64 (kindL s.data.toList)) ∧ w = w'
theorem kovPost_of {s : ByteArray} {k : Int} {w : World} (h : kindL s.data.toList = k) : KovPost s w (.returned (.int .i64 k)) w := ⟨by rw [h], rfl⟩

set_option maxHeartbeats 1000000 in
set_option maxRecDepth 100000 in
theorem kindOfValue_any (s : ByteArray) (w : World) : Calls Tryz.prog 83 #[.string s] w (KovPost s w) := by
  by_cases h0 : s = ByteArray.empty
  · subst h0
    go_enter Tryz.func83, Tryz.ntmps83
    go_wp2_with fail
    go_ret
    exact kovPost_of rfl
  have h02 := toList_ne h0
  have h03 : s.toList.isEmpty = false := by
    cases hx : s.toList.isEmpty with
    | false => rfl
    | true => exact absurd (by simpa using hx) h02
  have hpos : 0 < s.size := Nat.pos_of_ne_zero fun e => by
    have := size_ne h0
    rw [e] at this
    cases this
  have hposi : (0 : Int) < (s.size : Int) := by omega
  have hix : ∀ w, (Instr.index 9 (.string s) (.int .i64 0)).run Tryz.prog w = .ok (.int .u8 ((s[0]'hpos).toNat : Int)) w := fun w => by
    rw [run_index_string w _ _ _ _ Tryz.underlying9]
    simp [hpos]
  have hl : ∃ t, s.data.toList = s[0]'hpos :: t := by
    have e := head_at s hpos
    cases hl : s.data.toList with
    | nil => rw [hl] at e; cases e
    | cons c t =>
      rw [hl] at e
      exact ⟨t, by rw [show c = s[0]'hpos from Option.some.inj e]⟩
  obtain ⟨t, hl⟩ := hl
  generalize s[0]'hpos = c at hix hl
  have hc256 := c.toNat_lt
  have hci : (c.toNat : Int) < 256 := by omega
  have HK := Lib.hid (show kindL s.data.toList = if c.toNat = 45 ∨ bDigit c = true then 0 else if c.toNat = 34 then 1 else if c.toNat = 64 then 2 else if c.toNat = 91 then 4 else if c.toNat = 40 then 5 else 3 by rw [hl]; rfl)
  have hdig := fun w => aDigit_any (c.toNat : Int) w
  have hbd : bDigit c = chDigit (c.toNat : Int) := rfl
  rw [hbd] at HK
  clear hl hbd hc256
  by_cases h45 : (c.toNat : Int) = 45
  · have hf := Lib.hid (HK.out.trans (if_pos (.inl (by omega))))
    rw [h45] at hix
    go_enter Tryz.func83, Tryz.ntmps83
    go_wp2_with fail
    go_ret
    exact kovPost_of hf.out
  have n45 : ¬ c.toNat = 45 := by omega
  cases hD : chDigit (c.toNat : Int)
  rotate_left
  · have hf := Lib.hid (HK.out.trans (if_pos (.inr hD)))
    rw [hD] at hdig
    clear hD
    go_enter Tryz.func83, Tryz.ntmps83
    go_wp2_with (go_at_call 82; refine (hdig _).mono ?_; rintro e w' ⟨rfl, rfl⟩)
    go_ret
    exact kovPost_of hf.out
  have H1 := Lib.hid (HK.out.trans (if_neg (fun h => by
    rcases h with h | h
    · exact n45 h
    · rw [hD] at h; cases h)))
  rw [hD] at hdig
  clear hD HK
  by_cases h34 : (c.toNat : Int) = 34
  · have hf := Lib.hid (H1.out.trans (if_pos (by omega)))
    rw [h34] at hix hdig
    go_enter Tryz.func83, Tryz.ntmps83
    go_wp2_with (go_at_call 82; refine (hdig _).mono ?_; rintro e w' ⟨rfl, rfl⟩)
    go_ret
    exact kovPost_of hf.out
  have H2 := Lib.hid (H1.out.trans (if_neg (by omega)))
  by_cases h64 : (c.toNat : Int) = 64
  · have hf := Lib.hid (H2.out.trans (if_pos (by omega)))
    rw [h64] at hix hdig
    go_enter Tryz.func83, Tryz.ntmps83
    go_wp2_with (go_at_call 82; refine (hdig _).mono ?_; rintro e w' ⟨rfl, rfl⟩)
    go_ret
    exact kovPost_of hf.out
  have H3 := Lib.hid (H2.out.trans (if_neg (by omega)))
  by_cases h91 : (c.toNat : Int) = 91
  · have hf := Lib.hid (H3.out.trans (if_pos (by omega)))
    rw [h91] at hix hdig
    go_enter Tryz.func83, Tryz.ntmps83
    go_wp2_with (go_at_call 82; refine (hdig _).mono ?_; rintro e w' ⟨rfl, rfl⟩)
    go_ret
    exact kovPost_of hf.out
  have H4 := Lib.hid (H3.out.trans (if_neg (by omega)))
  by_cases h40 : (c.toNat : Int) = 40
  · have hf := Lib.hid (H4.out.trans (if_pos (by omega)))
    rw [h40] at hix hdig
    go_enter Tryz.func83, Tryz.ntmps83
    go_wp2_with (go_at_call 82; refine (hdig _).mono ?_; rintro e w' ⟨rfl, rfl⟩)
    go_ret
    exact kovPost_of hf.out
  have H5 := Lib.hid (H4.out.trans (if_neg (by omega)))
  clear H1 H2 H3 H4 n45
  go_enter Tryz.func83, Tryz.ntmps83
  go_wp2_with (go_at_call 82; refine (hdig _).mono ?_; rintro e w' ⟨rfl, rfl⟩)
  go_ret
  exact kovPost_of H5.out

/-- The right attribute with a name that a string is the value of. -/
def RaOut (nm s : ByteArray) (w : World) (e : Ending) (w' : World) : Prop := Below w.heap.size w w' ∧
  ((∃ (a : At) (v : Value) (ai : Option Addr) (ci : Nat) (ao : Option Addr) (ct : Nat), e = .returned (.tuple #[v, .bool true]) ∧ AttAt w' a v ai ci ao ct ∧ NewAt w ai ∧ NewAt w ao ∧ LiesI w' ai ∧ TypAt w' ao ∧ a.name = nm ∧ rightB a = true ∧ valueL a = s.data.toList) ∨
   (e = .returned (.tuple #[.agg #[.string ⟨#[]⟩, .int .i64 0, .int .i64 0, .string ⟨#[]⟩, .slice none 0 0, .slice none 0 0], .bool false]) ∧ ∀ b : At, rightB b = true → b.Wf → b.name = nm → valueL b ≠ s.data.toList))

set_option maxHeartbeats 4000000 in
set_option maxRecDepth 100000 in
theorem readAttribute_any (nm s : ByteArray) (hs : s.size < 4294967281) (w : World) (hE : Env w) : Calls Tryz.prog 59 #[.string nm, .string s] w (RaOut nm s w) := by
  have HE := Lib.hid hE
  have hkr := kindL_range s.data.toList
  have hrd : ∀ w', Env w' → Calls Tryz.prog (readF (kindNo (kindL s.data.toList))) #[attZ nm (kindL s.data.toList), .string s] w' (ReadOut nm (kindL s.data.toList) s w') := fun w' h => kind_read hkr hs w' h
  have HRD := Lib.hid hrd
  clear hE hrd
  go_enter Tryz.func59, Tryz.ntmps59
  go_wp2_with fail
  refine (kindOfValue_any s _).mono ?_
  rintro e w1 ⟨rfl, rfl⟩
  have HKV := Lib.hid (show ∀ b : At, rightB b = true → valueL b = s.data.toList → b.kind = kindL s.data.toList from fun b hb h => by rw [← h, kind_value hb])
  generalize kindL s.data.toList = k at hkr HRD HKV ⊢
  have HKR := Lib.hid hkr
  have t0 : ((w.alloc (.cells #[.string ⟨#[]⟩, .int .i64 0, .int .i64 0, .string ⟨#[]⟩, .slice none 0 0, .slice none 0 0] 74)).alloc (.cells #[.string nm, .int .i64 k, .int .i64 0, .string ⟨#[]⟩, .slice none 0 0, .slice none 0 0] 74)).heap[w.heap.size]? = some (.cells #[.string ⟨#[]⟩, .int .i64 0, .int .i64 0, .string ⟨#[]⟩, .slice none 0 0, .slice none 0 0] 74 (0, 0)) :=
    (Below.heap_alloc _ _ _ (by simp)).trans (heap_alloc_new _ _)
  have t1 : ((w.alloc (.cells #[.string ⟨#[]⟩, .int .i64 0, .int .i64 0, .string ⟨#[]⟩, .slice none 0 0, .slice none 0 0] 74)).alloc (.cells #[.string nm, .int .i64 k, .int .i64 0, .string ⟨#[]⟩, .slice none 0 0, .slice none 0 0] 74)).heap[w.heap.size + 1]? = some (.cells #[.string nm, .int .i64 k, .int .i64 0, .string ⟨#[]⟩, .slice none 0 0, .slice none 0 0] 74 (0, 0)) := by
    have := heap_alloc_new (w.alloc (.cells #[.string ⟨#[]⟩, .int .i64 0, .int .i64 0, .string ⟨#[]⟩, .slice none 0 0, .slice none 0 0] 74)) (.cells #[.string nm, .int .i64 k, .int .i64 0, .string ⟨#[]⟩, .slice none 0 0, .slice none 0 0] 74)
    simpa using this
  have tb : Below w.heap.size w ((w.alloc (.cells #[.string ⟨#[]⟩, .int .i64 0, .int .i64 0, .string ⟨#[]⟩, .slice none 0 0, .slice none 0 0] 74)).alloc (.cells #[.string nm, .int .i64 k, .int .i64 0, .string ⟨#[]⟩, .slice none 0 0, .slice none 0 0] 74)) :=
    ((Below.refl _ _).alloc (Nat.le_refl _) _).alloc (by simp) _
  have T0 := Lib.hid t0
  have T1 := Lib.hid t1
  have TB := Lib.hid tb
  clear t0 t1 tb hkr
  go_wp2_with fail
  refine (mannerOf_any k (by have := HKR.out; exact ⟨by omega, by omega⟩) _).mono ?_
  rintro e w1 ⟨rfl, hb⟩
  rw [decide_eq_true HKR.out, manOf_is (show kindNo k ≤ 5 by unfold kindNo; rw [if_pos HKR.out]; have := HKR.out; omega)]
  have B1 := Lib.hid (TB.out.trans (hb.mono TB.out.size))
  have S0 := Lib.hid ((hb.block _ (lt_of_block T0.out)).trans T0.out)
  have S1 := Lib.hid ((hb.block _ (lt_of_block T1.out)).trans T1.out)
  clear hb
  have hen := enters_read (kindNo k)
  generalize rightF (kindNo k) = f
  generalize writeF (kindNo k) = g
  generalize readF (kindNo k) = h at HRD hen
  obtain ⟨c0, c1, c2, c3, c4, c5, cf⟩ := cells6 S1.out
  have hlt := lt_of_block S1.out
  have BA := Lib.hid (B1.out.alloc B1.out.size (.cells #[.func (.func f) #[] #[], .func (.func g) #[] #[], .func (.func h) #[] #[]] 110))
  have A0 := Lib.hid ((Below.heap_alloc w1 (.cells #[.func (.func f) #[] #[], .func (.func g) #[] #[], .func (.func h) #[] #[]] 110) _ (lt_of_block S0.out)).trans S0.out)
  have A1 := Lib.hid ((Below.heap_alloc w1 (.cells #[.func (.func f) #[] #[], .func (.func g) #[] #[], .func (.func h) #[] #[]] 110) _ (lt_of_block S1.out)).trans S1.out)
  go_wp2_with fail
  refine (HRD.out _ (HE.out.below BA.out)).mono ?_
  rintro e w2 ⟨hb, a, v, ai, ci, ao, ct, ok, rfl, hat, hni, hno, hli, hty, hna, hki, hcan⟩
  have B2 := Lib.hid (BA.out.trans (hb.mono BA.out.size))
  have R0 := Lib.hid ((hb.block _ (lt_of_block A0.out)).trans A0.out)
  have R1 := Lib.hid ((hb.block _ (lt_of_block A1.out)).trans A1.out)
  have hbox : w.heap.size + 2 ≤ (w1.alloc (.cells #[.func (.func f) #[] #[], .func (.func g) #[] #[], .func (.func h) #[] #[]] 110)).heap.size := by simp; omega
  have HNI := Lib.hid (show ∀ x, ai = some x → w.heap.size + 2 ≤ x.block from fun x e => Nat.le_trans hbox (hni x e))
  have HNO := Lib.hid (show ∀ x, ao = some x → w.heap.size + 2 ≤ x.block from fun x e => Nat.le_trans hbox (hno x e))
  have hv := hat.val
  have hat3 : ∀ W3 : World, (∀ k, w.heap.size + 2 ≤ k → W3.heap[k]? = w2.heap[k]?) → AttAt W3 a v ai ci ao ct ∧ LiesI W3 ai ∧ TypAt W3 ao := fun W3 hk =>
    ⟨⟨hat.val, hat.ints.moved HNI.out hk, hat.texts.moved HNO.out hk, hat.icap, hat.tcap, hat.wf⟩,
      fun x e => by obtain ⟨cs, h⟩ := hli x e; exact ⟨cs, (hk _ (HNI.out x e)).trans h⟩, fun x e => by obtain ⟨cs, h⟩ := hty x e; exact ⟨cs, (hk _ (HNO.out x e)).trans h⟩⟩
  have HAT3 := Lib.hid hat3
  have HWF := Lib.hid hat.wf
  have HNK := Lib.hid (And.intro hna hki)
  have HCAN := Lib.hid hcan
  have hno0 : ok = false → ∀ b : At, rightB b = true → b.Wf → b.name = nm → valueL b ≠ s.data.toList := fun e b hb hw hn hv => by
    have := (hcan b hb hw hn (HKV.out b hb hv) hv).2
    rw [e] at this
    cases this
  have HNO0 := Lib.hid hno0
  clear hb hat hna hki hcan c0 c1 c2 c3 c4 c5 cf hlt hen hni hno hli hty hat3 hno0 hbox
  subst hv
  obtain ⟨c0, c1, c2, c3, c4, c5, cf⟩ := cells6 R1.out
  cases ok
  · obtain ⟨d0, d1, d2, d3, d4, d5, df⟩ := cells6 R0.out
    have HN1 := Lib.hid (HNO0.out rfl)
    clear HNO0
    go_wp2_with fail
    refine bodyPost_ret (v := .tuple #[.agg #[.string ⟨#[]⟩, .int .i64 0, .int .i64 0, .string ⟨#[]⟩, .slice none 0 0, .slice none 0 0], .bool false]) (results_cell_tmp Tryz.results59 rfl rfl (attVar (set6_block ((set6_other (by omega)).trans R0.out)))) rfl ?_
    exact ⟨below_set6 (below_set6 B2.out (by omega)) (Nat.le_refl _), .inr ⟨rfl, HN1.out⟩⟩
  · clear HNO0
    have HCAN2 := Lib.hid (show ∀ b : At, rightB b = true → b.Wf → b.name = nm → valueL b = s.data.toList → a = b from fun b hb hw hn hv => (HCAN.out b hb hw hn (HKV.out b hb hv) hv).1)
    clear HCAN
    go_wp2_with fail
    have P1 := Lib.hid (set6_block (u0 := .string a.name) (u1 := .int .i64 a.kind) (u2 := .int .i64 a.num) (u3 := .string a.text) (u4 := .slice ai a.ints.length ci) (u5 := .slice ao a.texts.length ct) R1.out)
    have P0 := Lib.hid ((set6_other (w := w2) (b := w.heap.size + 1) (k := w.heap.size) (u0 := .string a.name) (u1 := .int .i64 a.kind) (u2 := .int .i64 a.num) (u3 := .string a.text) (u4 := .slice ai a.ints.length ci) (u5 := .slice ao a.texts.length ct) (by omega)).trans R0.out)
    have PB := Lib.hid (below_set6 (b := w.heap.size + 1) (u0 := .string a.name) (u1 := .int .i64 a.kind) (u2 := .int .i64 a.num) (u3 := .string a.text) (u4 := .slice ai a.ints.length ci) (u5 := .slice ao a.texts.length ct) B2.out (by omega))
    have PA := Lib.hid (HAT3.out ((((((w2.setCell ⟨w.heap.size + 1, 0, none⟩ (.string a.name)).setCell ⟨w.heap.size + 1, 1, none⟩ (.int .i64 a.kind)).setCell ⟨w.heap.size + 1, 2, none⟩ (.int .i64 a.num)).setCell ⟨w.heap.size + 1, 3, none⟩ (.string a.text)).setCell ⟨w.heap.size + 1, 4, none⟩ (.slice ai a.ints.length ci)).setCell ⟨w.heap.size + 1, 5, none⟩ (.slice ao a.texts.length ct)) (fun k hk => set6_other (by omega)))
    generalize ((((((w2.setCell ⟨w.heap.size + 1, 0, none⟩ (.string a.name)).setCell ⟨w.heap.size + 1, 1, none⟩ (.int .i64 a.kind)).setCell ⟨w.heap.size + 1, 2, none⟩ (.int .i64 a.num)).setCell ⟨w.heap.size + 1, 3, none⟩ (.string a.text)).setCell ⟨w.heap.size + 1, 4, none⟩ (.slice ai a.ints.length ci)).setCell ⟨w.heap.size + 1, 5, none⟩ (.slice ao a.texts.length ct)) = W3 at P0 P1 PB PA ⊢
    clear c0 c1 c2 c3 c4 c5 cf HAT3 R0 R1
    refine (isRight_any a _ ai ci ao ct _ PA.out.1 (HE.out.below PB.out)).mono ?_
    rintro e w4 ⟨rfl, hb⟩
    have B4 := Lib.hid (PB.out.trans (hb.mono PB.out.size))
    have Q0 := Lib.hid ((hb.block _ (lt_of_block P0.out)).trans P0.out)
    have Q1 := Lib.hid ((hb.block _ (lt_of_block P1.out)).trans P1.out)
    have QA := Lib.hid (show AttAt w4 a _ ai ci ao ct ∧ LiesI w4 ai ∧ TypAt w4 ao from ⟨PA.out.1.below hb, fun x e => by obtain ⟨cs, h⟩ := PA.out.2.1 x e; exact ⟨cs, (hb.block _ (lt_of_block h)).trans h⟩, fun x e => by obtain ⟨cs, h⟩ := PA.out.2.2 x e; exact ⟨cs, (hb.block _ (lt_of_block h)).trans h⟩⟩)
    clear hb
    cases hrt : rightB a
    · have HR := Lib.hid hrt
      have hnn : Hid (∀ b : At, rightB b = true → b.Wf → b.name = nm → valueL b ≠ s.data.toList) := fun b hb hw hn hv => by
        have := HCAN2.out b hb hw hn hv
        rw [← this, HR.out] at hb
        cases hb
      clear hrt
      obtain ⟨d0, d1, d2, d3, d4, d5, df⟩ := cells6 Q0.out
      go_wp2_with fail
      refine bodyPost_ret (v := .tuple #[.agg #[.string ⟨#[]⟩, .int .i64 0, .int .i64 0, .string ⟨#[]⟩, .slice none 0 0, .slice none 0 0], .bool false]) (results_cell_tmp Tryz.results59 rfl rfl (attVar (set6_block Q0.out))) rfl ?_
      exact ⟨below_set6 B4.out (Nat.le_refl _), .inr ⟨rfl, hnn.out⟩⟩
    · have HR := Lib.hid hrt
      clear hrt
      obtain ⟨c0, c1, c2, c3, c4, c5, cf⟩ := cells6 Q1.out
      go_wp2_with fail
      refine (value_any a _ ai ci ao ct HR.out _ QA.out.1 (HE.out.below B4.out)).mono ?_
      rintro e w5 ⟨rfl, hb⟩
      have B5 := Lib.hid (B4.out.trans (hb.mono B4.out.size))
      have N0 := Lib.hid ((hb.block _ (lt_of_block Q0.out)).trans Q0.out)
      have N1 := Lib.hid ((hb.block _ (lt_of_block Q1.out)).trans Q1.out)
      have NA := Lib.hid (show AttAt w5 a _ ai ci ao ct ∧ LiesI w5 ai ∧ TypAt w5 ao from ⟨QA.out.1.below hb, fun x e => by obtain ⟨cs, h⟩ := QA.out.2.1 x e; exact ⟨cs, (hb.block _ (lt_of_block h)).trans h⟩, fun x e => by obtain ⟨cs, h⟩ := QA.out.2.2 x e; exact ⟨cs, (hb.block _ (lt_of_block h)).trans h⟩⟩)
      clear hb c0 c1 c2 c3 c4 c5 cf
      obtain ⟨d0, d1, d2, d3, d4, d5, df⟩ := cells6 N0.out
      obtain ⟨c0, c1, c2, c3, c4, c5, cf⟩ := cells6 N1.out
      obtain ⟨V, hV⟩ : ∃ V : ByteArray, V = ⟨(valueL a).toArray⟩ := ⟨_, rfl⟩
      have HV := Lib.hid hV
      rw [← hV]
      clear hV
      cases hcmp : (V.toList == s.toList)
      · have hnn : Hid (∀ b : At, rightB b = true → b.Wf → b.name = nm → valueL b ≠ s.data.toList) := fun b hb hw hn hv => by
          have h1 := HCAN2.out b hb hw hn hv
          rw [HV.out, h1, hv] at hcmp
          simp at hcmp
        go_wp2_with fail
        refine bodyPost_ret (v := .tuple #[.agg #[.string ⟨#[]⟩, .int .i64 0, .int .i64 0, .string ⟨#[]⟩, .slice none 0 0, .slice none 0 0], .bool false]) (results_cell_tmp Tryz.results59 rfl rfl (attVar (set6_block N0.out))) rfl ?_
        exact ⟨below_set6 B5.out (Nat.le_refl _), .inr ⟨rfl, hnn.out⟩⟩
      · have hval : Hid (valueL a = s.data.toList) := by
          have h1 : V.toList = s.toList := by simpa using hcmp
          rw [toList_data, toList_data] at h1
          show valueL a = _
          rw [← h1, HV.out]
        go_wp2_with fail
        refine bodyPost_ret (v := .tuple #[.agg #[.string a.name, .int .i64 a.kind, .int .i64 a.num, .string a.text, .slice ai a.ints.length ci, .slice ao a.texts.length ct], .bool true]) (results_cell_tmp Tryz.results59 rfl rfl (attVar (set6_block N0.out))) rfl ?_
        have hk6 : ∀ k, w.heap.size + 2 ≤ k → ((((((w5.setCell ⟨w.heap.size, 0, none⟩ (.string a.name)).setCell ⟨w.heap.size, 1, none⟩ (.int .i64 a.kind)).setCell ⟨w.heap.size, 2, none⟩ (.int .i64 a.num)).setCell ⟨w.heap.size, 3, none⟩ (.string a.text)).setCell ⟨w.heap.size, 4, none⟩ (.slice ai a.ints.length ci)).setCell ⟨w.heap.size, 5, none⟩ (.slice ao a.texts.length ct)).heap[k]? = w5.heap[k]? := fun k hk => set6_other (by omega)
        have hat := NA.out.1
        refine ⟨below_set6 B5.out (Nat.le_refl _), .inl ⟨a, _, ai, ci, ao, ct, rfl, ⟨hat.val, hat.ints.moved HNI.out hk6, hat.texts.moved HNO.out hk6, hat.icap, hat.tcap, hat.wf⟩,
          fun x e => by have := HNI.out x e; omega, fun x e => by have := HNO.out x e; omega,
          fun x e => by obtain ⟨cs, h⟩ := NA.out.2.1 x e; exact ⟨cs, (hk6 _ (HNI.out x e)).trans h⟩, fun x e => by obtain ⟨cs, h⟩ := NA.out.2.2 x e; exact ⟨cs, (hk6 _ (HNO.out x e)).trans h⟩, HNK.out.1, HR.out, hval.out⟩⟩
end Go.Proofs.YtiofnjnaleglgaaGreatDoor

