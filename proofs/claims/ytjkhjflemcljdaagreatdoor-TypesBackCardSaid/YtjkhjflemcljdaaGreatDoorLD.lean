/-
  The law 'TypesLists': it answers true, whatever string of at most 1048576 bytes its argument is.
-/
import Derived.Test.YtjkhjflemcljdaaGreatDoorLC
import Derived.Test.YtjkhjflemcljdaaGreatDoorR
import Derived.BigQuiet
namespace Go.Proofs.YtjkhjflemcljdaaGreatDoor
open Go.RowKit

/-- The types of a list of types; nothing: it is none. -/
def listR (l : List UInt8) : Option (List (List UInt8)) := (splitR l).bind fun ps => if ps.length ≤ 100 then some ps else none

theorem splitR_inner (l : List UInt8) : splitR l = (splitInner l).bind fun m => if m = [] then some [] else splitL (m.length + 1) m := by
  rw [inner_iff, splitR]
  split <;> rfl

theorem data_inj : ∀ {ps qs : List ByteArray}, ps.map (·.data.toList) = qs.map (·.data.toList) → ps = qs
  | [], [], _ => rfl
  | [], _ :: _, h => by cases h
  | _ :: _, [], h => by cases h
  | p :: ps, q :: qs, h => by
    rw [List.map_cons, List.map_cons] at h
    injection h with h1 h2
    rw [data_inj h2, show p = q by apply ByteArray.ext; exact Array.ext' h1]

/-- The program's 'Split' in the reference's words. -/
theorem Split_says (s : ByteArray) (hs : s.size < 4294967281) (w : World) (hE : Env w) : Calls Tryz.prog 35 #[.string s] w fun e w' => Below w.heap.size w w' ∧
    ((listR s.data.toList = none ∧ e = .returned (.tuple #[.slice none 0 0, .int .i64 10])) ∨
    ∃ (ps : List ByteArray) (ao : Option Addr) (c : Nat), listR s.data.toList = some (ps.map (·.data.toList)) ∧ ps.length ≤ 100 ∧ StrsAt w' ao ps ∧ e = .returned (.tuple #[.slice ao ps.length c, .int .i64 0])) := by
  have hl := splitR_inner s.data.toList
  cases hi : splitInner s.data.toList with
  | none =>
    rw [hi] at hl
    refine (Split_none s (by omega) hi w).mono fun e w' ⟨he, hw⟩ => ⟨hw ▸ Below.refl _ _, .inl ⟨by rw [listR, hl]; rfl, he⟩⟩
  | some l =>
    rw [hi, Option.bind_some] at hl
    refine (Split_some s hs l hi w hE).mono ?_
    rintro e w' ⟨hb, ⟨h0, he⟩ | ⟨h0, hp, he⟩ | ⟨h0, hp, ao, c, he, hst⟩⟩
    · rw [if_pos h0] at hl
      exact ⟨hb, .inr ⟨[], none, 0, by rw [listR, hl]; rfl, by simp, .inl rfl, he⟩⟩
    · rw [if_neg h0] at hl
      refine ⟨hb, .inl ⟨?_, he⟩⟩
      rcases split_agree l with ⟨h, _⟩ | ⟨_, h | ⟨ps, h, h100⟩⟩
      · rw [hp] at h; cases h
      · rw [listR, hl, h]; rfl
      · rw [listR, hl, h, Option.bind_some, if_neg (by omega)]
    · rw [if_neg h0] at hl
      obtain ⟨h, h100⟩ := parts_yes hp
      exact ⟨hb, .inr ⟨_, ao, c, by rw [listR, hl, h, Option.bind_some, if_pos (by rw [List.length_map]; exact h100)], h100, hst, he⟩⟩

theorem drawn_strings {B : Nat} {a w : World} (h : Below B a w) (n : Nat) : Below B a (w.drewN n) := ⟨h.os, h.tape, h.output, h.size, h.block⟩
set_option maxHeartbeats 400000 in
/-- Two lists of the same strings are the same. -/
theorem strings_yes (a1 a2 : Option Addr) (zs : List ByteArray) (c1 c2 : Nat) (hn : zs.length ≤ 1000000) (w : World) (h1 : StrsAt w a1 zs) (h2 : StrsAt w a2 zs) :
    Calls Tryz.prog 37 #[.slice a1 zs.length c1, .slice a2 zs.length c2] w fun e w' => e = .returned (.bool true) ∧ Below w.heap.size w w' := by
  have H1 := Lib.hid h1
  have H2 := Lib.hid h2
  clear h1 h2
  go_enter Tryz.func37, Tryz.ntmps37
  go_wp2_with fail
  go_loopw [5] (fun i wr => ∃ m : Nat, m ≤ zs.length ∧ i = .int .i64 m ∧ Hid (Below w.heap.size w wr)) (fun i _ => zs.length - (intOf i).toNat)
  case atStart => exact ⟨0, Nat.zero_le _, rfl, Below.refl _ _⟩
  case round =>
    obtain ⟨m, hm, rfl, HB⟩ := hrel
    by_cases hlt : m < zs.length
    · rcases H1.out.below HB.out with h0 | ⟨a, rfl, hc⟩
      · rw [h0] at hlt; exact absurd hlt (Nat.not_lt_zero _)
      rcases H2.out.below HB.out with h0 | ⟨a', rfl, hc'⟩
      · rw [h0] at hlt; exact absurd hlt (Nat.not_lt_zero _)
      have hcm := hc m hlt
      have hcm' := hc' m hlt
      clear hc hc'
      obtain ⟨z, hz⟩ : ∃ z, z = zs[m]?.getD ByteArray.empty := ⟨_, rfl⟩
      rw [← hz] at hcm hcm'
      clear hz
      go_wp2_with fail
      go_quiet (fail)
      go_wp2_with fail
      go_roundw
      case rel => exact ⟨m + 1, by omega, by go_num, drawn_strings HB.out _⟩
      case measure => simp [intOf]; omega
    · obtain rfl : m = zs.length := by omega
      go_wp2_with fail
      go_ret
      exact ⟨rfl, HB.out⟩

set_option maxHeartbeats 4000000 in
set_option maxRecDepth 100000 in
theorem TypesLists_any (s : ByteArray) (hs : s.size ≤ 1048576) (w : World) (hE : Env w) :
    Calls Tryz.prog 7 #[.string s] w fun e w' => e = .returned (.bool true) ∧ Below w.heap.size w w' := by
  have HE := Lib.hid hE
  clear hE
  go_enter Tryz.func7, Tryz.ntmps7
  go_wp2_with fail
  refine (Split_says s (by omega) _ HE.out).mono ?_
  rintro e w1 ⟨hb1, ⟨hn, rfl⟩ | ⟨ps, ao, c, hy, h100, hst, rfl⟩⟩
  · have B1 := Lib.hid hb1
    have HN := Lib.hid hn
    clear hb1 hn
    go_wp2_with fail
    refine (SplitR_some s hs _).mono ?_
    rintro e w2 ⟨hb2, ⟨hr, rfl⟩ | ⟨qs, ao2, c2, hr, hst2, rfl⟩⟩
    · have B2 := Lib.hid (B1.out.trans (hb2.mono B1.out.size))
      clear hb2 hr
      go_wp2_with fail
      refine (awake_any _ (HE.out.below B2.out)).mono ?_
      rintro e w5 ⟨rfl, hb5⟩
      have B5 := Lib.hid (B2.out.trans (hb5.mono B2.out.size))
      clear hb5
      go_wp2_with fail
      go_ret
      exact ⟨rfl, B5.out⟩
    · have B2 := Lib.hid (B1.out.trans (hb2.mono B1.out.size))
      have hd : decide (qs.length ≤ 100) = false := by
        have h := HN.out
        rw [listR, hr, Option.bind_some] at h
        split at h
        · cases h
        · rename_i hx
          rw [List.length_map] at hx
          exact decide_eq_false hx
      rw [hd]
      clear hb2 hr hd hst2
      go_wp2_with fail
      refine (awake_any _ (HE.out.below B2.out)).mono ?_
      rintro e w5 ⟨rfl, hb5⟩
      have B5 := Lib.hid (B2.out.trans (hb5.mono B2.out.size))
      clear hb5
      go_wp2_with fail
      go_ret
      exact ⟨rfl, B5.out⟩
  · have B1 := Lib.hid hb1
    have HY := Lib.hid hy
    have HST := Lib.hid hst
    clear hb1 hy hst
    go_wp2_with fail
    refine (SplitR_some s hs _).mono ?_
    rintro e w2 ⟨hb2, ⟨hr, rfl⟩ | ⟨qs, ao2, c2, hr, hst2, rfl⟩⟩
    · exact absurd (show listR s.data.toList = none by rw [listR, hr]; rfl) (by rw [HY.out]; simp)
    · have hq : qs = ps := by
        have h := HY.out
        rw [listR, hr, Option.bind_some] at h
        split at h
        · exact data_inj (Option.some.inj h)
        · cases h
      subst hq
      have B2 := Lib.hid (B1.out.trans (hb2.mono B1.out.size))
      have ST1 := Lib.hid (HST.out.below hb2)
      have ST2 := Lib.hid hst2
      rw [decide_eq_true h100]
      clear hb2 hr hst2
      go_wp2_with fail
      refine (strings_yes ao ao2 qs c c2 (by omega) _ ST1.out ST2.out).mono ?_
      rintro e w3 ⟨rfl, hb3⟩
      have B3 := Lib.hid (B2.out.trans (hb3.mono B2.out.size))
      clear hb3
      go_wp2_with fail
      refine (awake_any _ (HE.out.below B3.out)).mono ?_
      rintro e w5 ⟨rfl, hb5⟩
      have B5 := Lib.hid (B3.out.trans (hb5.mono B3.out.size))
      clear hb5
      go_wp2_with fail
      go_ret
      exact ⟨rfl, B5.out⟩
end Go.Proofs.YtjkhjflemcljdaaGreatDoor
