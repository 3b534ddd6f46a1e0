/-
  The walk of the law 'AttrsCompares'.
-/
import Derived.Test.YtiofnjnaleglgaaGreatDoorKAtRC
import Derived.Test.YtiofnjnaleglgaaGreatDoorHAtRR
import Derived.Test.YtiofnjnaleglgaaGreatDoorG40
namespace Go.Proofs.YtiofnjnaleglgaaGreatDoor
open Go.RowKit

theorem cmp_ways {w : World} (hE : Env w) {a b : At} (ha : rightB a = true) (hb : rightB b = true) (wa : a.Wf) (wb : b.Wf) :
    (cmpL a b = 0 ∧ cmpL b a = 0 ∧ eqA a b = true) ∨ (cmpL a b = 1 ∧ cmpL b a = -1 ∧ eqA a b = false) ∨ (cmpL a b = -1 ∧ cmpL b a = 1 ∧ eqA a b = false) := by
  have hn := cmpL_neg a b
  rcases cmpL_range a b with h | h | h
  · exact .inr (.inr ⟨h, by omega, eqA_no fun e => by rw [e, cmpL_self] at h; cases h⟩)
  · exact .inl ⟨h, by omega, eqA_yes (cmpL_eq hE ha hb wa wb h)⟩
  · exact .inr (.inl ⟨h, by omega, eqA_no fun e => by rw [e, cmpL_self] at h; cases h⟩)

set_option maxHeartbeats 8000000 in
set_option maxRecDepth 100000 in
theorem AttrsCompares_any (a b : At) (va vb : Value) (ai : Option Addr) (ci : Nat) (ao : Option Addr) (ct : Nat) (bi : Option Addr) (di : Nat) (bo : Option Addr) (dt : Nat) (hsa : Short a) (hsb : Short b) (w : World) (ha : AttAt w a va ai ci ao ct) (hb : AttAt w b vb bi di bo dt) (hE : Env w) :
    Calls Tryz.prog 6 #[va, vb] w fun e w' => e = .returned (.bool true) ∧ Below w.heap.size w w' := by
  have HSA := Lib.hid hsa
  have HSB := Lib.hid hsb
  have HWY := Lib.hid (fun h1 h2 => cmp_ways hE (a := a) (b := b) h1 h2 ha.wf hb.wf)
  have HE := Lib.hid hE
  have hva := ha.val
  have hvb := hb.val
  have HA0 := Lib.hid ha
  have HB0 := Lib.hid hb
  clear ha hb hE hsa hsb
  subst hva hvb
  go_enter Tryz.func6, Tryz.ntmps6
  go_upto_region 1 with fail
  obtain ⟨P0, hP0⟩ : ∃ P0, P0 = w.heap.size := ⟨_, rfl⟩
  obtain ⟨W1, hW1⟩ : ∃ W1, W1 = (w.alloc (.cells #[.string a.name, .int .i64 a.kind, .int .i64 a.num, .string a.text, .slice ai a.ints.length ci, .slice ao a.texts.length ct] 29)).alloc (.cells #[.string b.name, .int .i64 b.kind, .int .i64 b.num, .string b.text, .slice bi b.ints.length di, .slice bo b.texts.length dt] 29) := ⟨_, rfl⟩
  have TA : Hid (W1.heap[P0]? = some (.cells #[.string a.name, .int .i64 a.kind, .int .i64 a.num, .string a.text, .slice ai a.ints.length ci, .slice ao a.texts.length ct] 29 (0, 0))) := by
    show W1.heap[P0]? = _
    rw [hW1, hP0]
    exact (Below.heap_alloc _ _ _ (by simp)).trans (heap_alloc_new _ _)
  have TB : Hid (W1.heap[P0 + 1]? = some (.cells #[.string b.name, .int .i64 b.kind, .int .i64 b.num, .string b.text, .slice bi b.ints.length di, .slice bo b.texts.length dt] 29 (0, 0))) := by
    have := heap_alloc_new (w.alloc (.cells #[.string a.name, .int .i64 a.kind, .int .i64 a.num, .string a.text, .slice ai a.ints.length ci, .slice ao a.texts.length ct] 29)) (.cells #[.string b.name, .int .i64 b.kind, .int .i64 b.num, .string b.text, .slice bi b.ints.length di, .slice bo b.texts.length dt] 29)
    show W1.heap[P0 + 1]? = _
    rw [hW1, hP0]
    simpa using this
  have BW : Hid (Below w.heap.size w W1) := by
    show Below _ _ _
    rw [hW1]
    exact ((Below.refl _ w).alloc (Nat.le_refl _) _).alloc (by simp) _
  rw [← hW1, ← hP0]
  clear hW1 hP0
  have HA := Lib.hid (HA0.out.below BW.out)
  have HB := Lib.hid (HB0.out.below BW.out)
  clear HA0 HB0
  have BW1 := BW
  have TA1 := TA
  have TB1 := TB
  have HA1 := HA
  have HB1 := HB
  clear BW TA TB HA HB
  cases hr : rightB a with
  | false =>
    have HBAD := Lib.hid (show (rightB a && rightB b) = false by rw [hr]; rfl)
    have HBAD2 := Lib.hid (show (rightB b && rightB a) = false by rw [hr, Bool.and_false])
    have HR := Lib.hid hr
    clear hr HWY HSB
    obtain ⟨c0, c1, c2, c3, c4, c5, cf⟩ := cells6 TA1.out
    obtain ⟨d0, d1, d2, d3, d4, d5, df⟩ := cells6 TB1.out
    go_wp2_with fail
    refine (Equal_any a b _ _ ai ci ao ct bi di bo dt W1 HA1.out HB1.out (HE.out.below BW1.out)).mono ?_
    rintro e W2 ⟨rfl, hb⟩
    rw [(eqOut_bad HBAD.out).1, (eqOut_bad HBAD.out).2]
    have BW2 := Lib.hid (BW1.out.trans (hb.mono BW1.out.size))
    have TA2 := Lib.hid ((hb.block _ (lt_of_block TA1.out)).trans TA1.out)
    have TB2 := Lib.hid ((hb.block _ (lt_of_block TB1.out)).trans TB1.out)
    have HA2 := Lib.hid (HA1.out.below hb)
    have HB2 := Lib.hid (HB1.out.below hb)
    clear hb BW1 TA1 TB1 HA1 HB1 c0 c1 c2 c3 c4 c5 cf d0 d1 d2 d3 d4 d5 df
    obtain ⟨c0, c1, c2, c3, c4, c5, cf⟩ := cells6 TA2.out
    obtain ⟨d0, d1, d2, d3, d4, d5, df⟩ := cells6 TB2.out
    go_wp2_with fail
    refine (Cmp_any a b _ _ ai ci ao ct bi di bo dt W2 HA2.out HB2.out (HE.out.below BW2.out)).mono ?_
    rintro e W3 ⟨rfl, hb⟩
    rw [(cmp_bad HBAD.out).1, (cmp_bad HBAD.out).2]
    have BW3 := Lib.hid (BW2.out.trans (hb.mono BW2.out.size))
    have TA3 := Lib.hid ((hb.block _ (lt_of_block TA2.out)).trans TA2.out)
    have TB3 := Lib.hid ((hb.block _ (lt_of_block TB2.out)).trans TB2.out)
    have HA3 := Lib.hid (HA2.out.below hb)
    have HB3 := Lib.hid (HB2.out.below hb)
    clear hb BW2 TA2 TB2 HA2 HB2 c0 c1 c2 c3 c4 c5 cf d0 d1 d2 d3 d4 d5 df
    obtain ⟨c0, c1, c2, c3, c4, c5, cf⟩ := cells6 TA3.out
    obtain ⟨d0, d1, d2, d3, d4, d5, df⟩ := cells6 TB3.out
    go_wp2_with fail
    refine (Cmp_any b a _ _ bi di bo dt ai ci ao ct W3 HB3.out HA3.out (HE.out.below BW3.out)).mono ?_
    rintro e W4 ⟨rfl, hb⟩
    rw [(cmp_bad HBAD2.out).1, (cmp_bad HBAD2.out).2]
    have BW4 := Lib.hid (BW3.out.trans (hb.mono BW3.out.size))
    have TA4 := Lib.hid ((hb.block _ (lt_of_block TA3.out)).trans TA3.out)
    have TB4 := Lib.hid ((hb.block _ (lt_of_block TB3.out)).trans TB3.out)
    have HA4 := Lib.hid (HA3.out.below hb)
    have HB4 := Lib.hid (HB3.out.below hb)
    clear hb BW3 TA3 TB3 HA3 HB3 c0 c1 c2 c3 c4 c5 cf d0 d1 d2 d3 d4 d5 df
    obtain ⟨c0, c1, c2, c3, c4, c5, cf⟩ := cells6 TA4.out
    obtain ⟨d0, d1, d2, d3, d4, d5, df⟩ := cells6 TB4.out
    go_wp2_with fail
    refine (RRight_any a _ ai ci ao ct HSA.out W4 HA4.out).mono ?_
    rintro e W5 ⟨rfl, hb⟩
    rw [HR.out]
    have BW5 := Lib.hid (BW4.out.trans (hb.mono BW4.out.size))
    have TA5 := Lib.hid ((hb.block _ (lt_of_block TA4.out)).trans TA4.out)
    have TB5 := Lib.hid ((hb.block _ (lt_of_block TB4.out)).trans TB4.out)
    have HA5 := Lib.hid (HA4.out.below hb)
    have HB5 := Lib.hid (HB4.out.below hb)
    clear hb BW4 TA4 TB4 HA4 HB4 c0 c1 c2 c3 c4 c5 cf d0 d1 d2 d3 d4 d5 df
    go_wp2_with fail
    refine (awake2_any _ (HE.out.below BW5.out)).mono ?_
    rintro e wz ⟨rfl, hb⟩
    have BZ := Lib.hid (BW5.out.trans (hb.mono BW5.out.size))
    clear hb
    go_wp2_with fail
    go_ret
    exact ⟨rfl, BZ.out⟩
  | true =>
    have HR := Lib.hid hr
    clear hr
    cases hs : rightB b with
    | false =>
      have HBAD := Lib.hid (show (rightB a && rightB b) = false by rw [hs, Bool.and_false])
      have HBAD2 := Lib.hid (show (rightB b && rightB a) = false by rw [hs]; rfl)
      have HS := Lib.hid hs
      clear hs HWY
      obtain ⟨c0, c1, c2, c3, c4, c5, cf⟩ := cells6 TA1.out
      obtain ⟨d0, d1, d2, d3, d4, d5, df⟩ := cells6 TB1.out
      go_wp2_with fail
      refine (Equal_any a b _ _ ai ci ao ct bi di bo dt W1 HA1.out HB1.out (HE.out.below BW1.out)).mono ?_
      rintro e W2 ⟨rfl, hb⟩
      rw [(eqOut_bad HBAD.out).1, (eqOut_bad HBAD.out).2]
      have BW2 := Lib.hid (BW1.out.trans (hb.mono BW1.out.size))
      have TA2 := Lib.hid ((hb.block _ (lt_of_block TA1.out)).trans TA1.out)
      have TB2 := Lib.hid ((hb.block _ (lt_of_block TB1.out)).trans TB1.out)
      have HA2 := Lib.hid (HA1.out.below hb)
      have HB2 := Lib.hid (HB1.out.below hb)
      clear hb BW1 TA1 TB1 HA1 HB1 c0 c1 c2 c3 c4 c5 cf d0 d1 d2 d3 d4 d5 df
      obtain ⟨c0, c1, c2, c3, c4, c5, cf⟩ := cells6 TA2.out
      obtain ⟨d0, d1, d2, d3, d4, d5, df⟩ := cells6 TB2.out
      go_wp2_with fail
      refine (Cmp_any a b _ _ ai ci ao ct bi di bo dt W2 HA2.out HB2.out (HE.out.below BW2.out)).mono ?_
      rintro e W3 ⟨rfl, hb⟩
      rw [(cmp_bad HBAD.out).1, (cmp_bad HBAD.out).2]
      have BW3 := Lib.hid (BW2.out.trans (hb.mono BW2.out.size))
      have TA3 := Lib.hid ((hb.block _ (lt_of_block TA2.out)).trans TA2.out)
      have TB3 := Lib.hid ((hb.block _ (lt_of_block TB2.out)).trans TB2.out)
      have HA3 := Lib.hid (HA2.out.below hb)
      have HB3 := Lib.hid (HB2.out.below hb)
      clear hb BW2 TA2 TB2 HA2 HB2 c0 c1 c2 c3 c4 c5 cf d0 d1 d2 d3 d4 d5 df
      obtain ⟨c0, c1, c2, c3, c4, c5, cf⟩ := cells6 TA3.out
      obtain ⟨d0, d1, d2, d3, d4, d5, df⟩ := cells6 TB3.out
      go_wp2_with fail
      refine (Cmp_any b a _ _ bi di bo dt ai ci ao ct W3 HB3.out HA3.out (HE.out.below BW3.out)).mono ?_
      rintro e W4 ⟨rfl, hb⟩
      rw [(cmp_bad HBAD2.out).1, (cmp_bad HBAD2.out).2]
      have BW4 := Lib.hid (BW3.out.trans (hb.mono BW3.out.size))
      have TA4 := Lib.hid ((hb.block _ (lt_of_block TA3.out)).trans TA3.out)
      have TB4 := Lib.hid ((hb.block _ (lt_of_block TB3.out)).trans TB3.out)
      have HA4 := Lib.hid (HA3.out.below hb)
      have HB4 := Lib.hid (HB3.out.below hb)
      clear hb BW3 TA3 TB3 HA3 HB3 c0 c1 c2 c3 c4 c5 cf d0 d1 d2 d3 d4 d5 df
      obtain ⟨c0, c1, c2, c3, c4, c5, cf⟩ := cells6 TA4.out
      obtain ⟨d0, d1, d2, d3, d4, d5, df⟩ := cells6 TB4.out
      go_wp2_with fail
      refine (RRight_any a _ ai ci ao ct HSA.out W4 HA4.out).mono ?_
      rintro e W5 ⟨rfl, hb⟩
      rw [HR.out]
      have BW5 := Lib.hid (BW4.out.trans (hb.mono BW4.out.size))
      have TA5 := Lib.hid ((hb.block _ (lt_of_block TA4.out)).trans TA4.out)
      have TB5 := Lib.hid ((hb.block _ (lt_of_block TB4.out)).trans TB4.out)
      have HA5 := Lib.hid (HA4.out.below hb)
      have HB5 := Lib.hid (HB4.out.below hb)
      clear hb BW4 TA4 TB4 HA4 HB4 c0 c1 c2 c3 c4 c5 cf d0 d1 d2 d3 d4 d5 df
      obtain ⟨c0, c1, c2, c3, c4, c5, cf⟩ := cells6 TA5.out
      obtain ⟨d0, d1, d2, d3, d4, d5, df⟩ := cells6 TB5.out
      go_wp2_with fail
      refine (RRight_any b _ bi di bo dt HSB.out W5 HB5.out).mono ?_
      rintro e W6 ⟨rfl, hb⟩
      rw [HS.out]
      have BW6 := Lib.hid (BW5.out.trans (hb.mono BW5.out.size))
      have TA6 := Lib.hid ((hb.block _ (lt_of_block TA5.out)).trans TA5.out)
      have TB6 := Lib.hid ((hb.block _ (lt_of_block TB5.out)).trans TB5.out)
      have HA6 := Lib.hid (HA5.out.below hb)
      have HB6 := Lib.hid (HB5.out.below hb)
      clear hb BW5 TA5 TB5 HA5 HB5 c0 c1 c2 c3 c4 c5 cf d0 d1 d2 d3 d4 d5 df
      go_wp2_with fail
      refine (awake2_any _ (HE.out.below BW6.out)).mono ?_
      rintro e wz ⟨rfl, hb⟩
      have BZ := Lib.hid (BW6.out.trans (hb.mono BW6.out.size))
      clear hb
      go_wp2_with fail
      go_ret
      exact ⟨rfl, BZ.out⟩
    | true =>
      have HS := Lib.hid hs
      clear hs
      rcases HWY.out HR.out HS.out with hw | hw | hw
      · have HW := Lib.hid hw
        clear hw HWY
        have G1 := Lib.hid (eqOut_good HR.out HS.out)
        have G2 := Lib.hid (cmp_good HR.out HS.out)
        have G3 := Lib.hid (cmp_good HS.out HR.out)
        obtain ⟨c0, c1, c2, c3, c4, c5, cf⟩ := cells6 TA1.out
        obtain ⟨d0, d1, d2, d3, d4, d5, df⟩ := cells6 TB1.out
        go_wp2_with fail
        refine (Equal_any a b _ _ ai ci ao ct bi di bo dt W1 HA1.out HB1.out (HE.out.below BW1.out)).mono ?_
        rintro e W2 ⟨rfl, hb⟩
        rw [G1.out.1, G1.out.2, HW.out.2.2]
        have BW2 := Lib.hid (BW1.out.trans (hb.mono BW1.out.size))
        have TA2 := Lib.hid ((hb.block _ (lt_of_block TA1.out)).trans TA1.out)
        have TB2 := Lib.hid ((hb.block _ (lt_of_block TB1.out)).trans TB1.out)
        have HA2 := Lib.hid (HA1.out.below hb)
        have HB2 := Lib.hid (HB1.out.below hb)
        clear hb BW1 TA1 TB1 HA1 HB1 c0 c1 c2 c3 c4 c5 cf d0 d1 d2 d3 d4 d5 df
        obtain ⟨c0, c1, c2, c3, c4, c5, cf⟩ := cells6 TA2.out
        obtain ⟨d0, d1, d2, d3, d4, d5, df⟩ := cells6 TB2.out
        go_wp2_with fail
        refine (Cmp_any a b _ _ ai ci ao ct bi di bo dt W2 HA2.out HB2.out (HE.out.below BW2.out)).mono ?_
        rintro e W3 ⟨rfl, hb⟩
        rw [G2.out.1, G2.out.2, HW.out.1]
        have BW3 := Lib.hid (BW2.out.trans (hb.mono BW2.out.size))
        have TA3 := Lib.hid ((hb.block _ (lt_of_block TA2.out)).trans TA2.out)
        have TB3 := Lib.hid ((hb.block _ (lt_of_block TB2.out)).trans TB2.out)
        have HA3 := Lib.hid (HA2.out.below hb)
        have HB3 := Lib.hid (HB2.out.below hb)
        clear hb BW2 TA2 TB2 HA2 HB2 c0 c1 c2 c3 c4 c5 cf d0 d1 d2 d3 d4 d5 df
        obtain ⟨c0, c1, c2, c3, c4, c5, cf⟩ := cells6 TA3.out
        obtain ⟨d0, d1, d2, d3, d4, d5, df⟩ := cells6 TB3.out
        go_wp2_with fail
        refine (Cmp_any b a _ _ bi di bo dt ai ci ao ct W3 HB3.out HA3.out (HE.out.below BW3.out)).mono ?_
        rintro e W4 ⟨rfl, hb⟩
        rw [G3.out.1, G3.out.2, HW.out.2.1]
        have BW4 := Lib.hid (BW3.out.trans (hb.mono BW3.out.size))
        have TA4 := Lib.hid ((hb.block _ (lt_of_block TA3.out)).trans TA3.out)
        have TB4 := Lib.hid ((hb.block _ (lt_of_block TB3.out)).trans TB3.out)
        have HA4 := Lib.hid (HA3.out.below hb)
        have HB4 := Lib.hid (HB3.out.below hb)
        clear hb BW3 TA3 TB3 HA3 HB3 c0 c1 c2 c3 c4 c5 cf d0 d1 d2 d3 d4 d5 df
        obtain ⟨c0, c1, c2, c3, c4, c5, cf⟩ := cells6 TA4.out
        obtain ⟨d0, d1, d2, d3, d4, d5, df⟩ := cells6 TB4.out
        go_wp2_with fail
        refine (RRight_any a _ ai ci ao ct HSA.out W4 HA4.out).mono ?_
        rintro e W5 ⟨rfl, hb⟩
        rw [HR.out]
        have BW5 := Lib.hid (BW4.out.trans (hb.mono BW4.out.size))
        have TA5 := Lib.hid ((hb.block _ (lt_of_block TA4.out)).trans TA4.out)
        have TB5 := Lib.hid ((hb.block _ (lt_of_block TB4.out)).trans TB4.out)
        have HA5 := Lib.hid (HA4.out.below hb)
        have HB5 := Lib.hid (HB4.out.below hb)
        clear hb BW4 TA4 TB4 HA4 HB4 c0 c1 c2 c3 c4 c5 cf d0 d1 d2 d3 d4 d5 df
        obtain ⟨c0, c1, c2, c3, c4, c5, cf⟩ := cells6 TA5.out
        obtain ⟨d0, d1, d2, d3, d4, d5, df⟩ := cells6 TB5.out
        go_wp2_with fail
        refine (RRight_any b _ bi di bo dt HSB.out W5 HB5.out).mono ?_
        rintro e W6 ⟨rfl, hb⟩
        rw [HS.out]
        have BW6 := Lib.hid (BW5.out.trans (hb.mono BW5.out.size))
        have TA6 := Lib.hid ((hb.block _ (lt_of_block TA5.out)).trans TA5.out)
        have TB6 := Lib.hid ((hb.block _ (lt_of_block TB5.out)).trans TB5.out)
        have HA6 := Lib.hid (HA5.out.below hb)
        have HB6 := Lib.hid (HB5.out.below hb)
        clear hb BW5 TA5 TB5 HA5 HB5 c0 c1 c2 c3 c4 c5 cf d0 d1 d2 d3 d4 d5 df
        obtain ⟨c0, c1, c2, c3, c4, c5, cf⟩ := cells6 TA6.out
        obtain ⟨d0, d1, d2, d3, d4, d5, df⟩ := cells6 TB6.out
        go_wp2_with fail
        refine (REqual_any a b _ _ ai ci ao ct bi di bo dt W6 HA6.out HB6.out).mono ?_
        rintro e W7 ⟨rfl, hb⟩
        rw [HW.out.2.2]
        have BW7 := Lib.hid (BW6.out.trans (hb.mono BW6.out.size))
        have TA7 := Lib.hid ((hb.block _ (lt_of_block TA6.out)).trans TA6.out)
        have TB7 := Lib.hid ((hb.block _ (lt_of_block TB6.out)).trans TB6.out)
        have HA7 := Lib.hid (HA6.out.below hb)
        have HB7 := Lib.hid (HB6.out.below hb)
        clear hb BW6 TA6 TB6 HA6 HB6 c0 c1 c2 c3 c4 c5 cf d0 d1 d2 d3 d4 d5 df
        obtain ⟨c0, c1, c2, c3, c4, c5, cf⟩ := cells6 TA7.out
        obtain ⟨d0, d1, d2, d3, d4, d5, df⟩ := cells6 TB7.out
        go_wp2_with fail
        refine (RCmp_any a b _ _ ai ci ao ct bi di bo dt HR.out HS.out W7 HA7.out HB7.out).mono ?_
        rintro e W8 ⟨rfl, hb⟩
        rw [HW.out.1]
        have BW8 := Lib.hid (BW7.out.trans (hb.mono BW7.out.size))
        have TA8 := Lib.hid ((hb.block _ (lt_of_block TA7.out)).trans TA7.out)
        have TB8 := Lib.hid ((hb.block _ (lt_of_block TB7.out)).trans TB7.out)
        have HA8 := Lib.hid (HA7.out.below hb)
        have HB8 := Lib.hid (HB7.out.below hb)
        clear hb BW7 TA7 TB7 HA7 HB7 c0 c1 c2 c3 c4 c5 cf d0 d1 d2 d3 d4 d5 df
        go_wp2_with fail
        refine (awake2_any _ (HE.out.below BW8.out)).mono ?_
        rintro e wz ⟨rfl, hb⟩
        have BZ := Lib.hid (BW8.out.trans (hb.mono BW8.out.size))
        clear hb
        go_wp2_with fail
        go_ret
        exact ⟨rfl, BZ.out⟩
      · have HW := Lib.hid hw
        clear hw HWY
        have G1 := Lib.hid (eqOut_good HR.out HS.out)
        have G2 := Lib.hid (cmp_good HR.out HS.out)
        have G3 := Lib.hid (cmp_good HS.out HR.out)
        obtain ⟨c0, c1, c2, c3, c4, c5, cf⟩ := cells6 TA1.out
        obtain ⟨d0, d1, d2, d3, d4, d5, df⟩ := cells6 TB1.out
        go_wp2_with fail
        refine (Equal_any a b _ _ ai ci ao ct bi di bo dt W1 HA1.out HB1.out (HE.out.below BW1.out)).mono ?_
        rintro e W2 ⟨rfl, hb⟩
        rw [G1.out.1, G1.out.2, HW.out.2.2]
        have BW2 := Lib.hid (BW1.out.trans (hb.mono BW1.out.size))
        have TA2 := Lib.hid ((hb.block _ (lt_of_block TA1.out)).trans TA1.out)
        have TB2 := Lib.hid ((hb.block _ (lt_of_block TB1.out)).trans TB1.out)
        have HA2 := Lib.hid (HA1.out.below hb)
        have HB2 := Lib.hid (HB1.out.below hb)
        clear hb BW1 TA1 TB1 HA1 HB1 c0 c1 c2 c3 c4 c5 cf d0 d1 d2 d3 d4 d5 df
        obtain ⟨c0, c1, c2, c3, c4, c5, cf⟩ := cells6 TA2.out
        obtain ⟨d0, d1, d2, d3, d4, d5, df⟩ := cells6 TB2.out
        go_wp2_with fail
        refine (Cmp_any a b _ _ ai ci ao ct bi di bo dt W2 HA2.out HB2.out (HE.out.below BW2.out)).mono ?_
        rintro e W3 ⟨rfl, hb⟩
        rw [G2.out.1, G2.out.2, HW.out.1]
        have BW3 := Lib.hid (BW2.out.trans (hb.mono BW2.out.size))
        have TA3 := Lib.hid ((hb.block _ (lt_of_block TA2.out)).trans TA2.out)
        have TB3 := Lib.hid ((hb.block _ (lt_of_block TB2.out)).trans TB2.out)
        have HA3 := Lib.hid (HA2.out.below hb)
        have HB3 := Lib.hid (HB2.out.below hb)
        clear hb BW2 TA2 TB2 HA2 HB2 c0 c1 c2 c3 c4 c5 cf d0 d1 d2 d3 d4 d5 df
        obtain ⟨c0, c1, c2, c3, c4, c5, cf⟩ := cells6 TA3.out
        obtain ⟨d0, d1, d2, d3, d4, d5, df⟩ := cells6 TB3.out
        go_wp2_with fail
        refine (Cmp_any b a _ _ bi di bo dt ai ci ao ct W3 HB3.out HA3.out (HE.out.below BW3.out)).mono ?_
        rintro e W4 ⟨rfl, hb⟩
        rw [G3.out.1, G3.out.2, HW.out.2.1]
        have BW4 := Lib.hid (BW3.out.trans (hb.mono BW3.out.size))
        have TA4 := Lib.hid ((hb.block _ (lt_of_block TA3.out)).trans TA3.out)
        have TB4 := Lib.hid ((hb.block _ (lt_of_block TB3.out)).trans TB3.out)
        have HA4 := Lib.hid (HA3.out.below hb)
        have HB4 := Lib.hid (HB3.out.below hb)
        clear hb BW3 TA3 TB3 HA3 HB3 c0 c1 c2 c3 c4 c5 cf d0 d1 d2 d3 d4 d5 df
        obtain ⟨c0, c1, c2, c3, c4, c5, cf⟩ := cells6 TA4.out
        obtain ⟨d0, d1, d2, d3, d4, d5, df⟩ := cells6 TB4.out
        go_wp2_with fail
        refine (RRight_any a _ ai ci ao ct HSA.out W4 HA4.out).mono ?_
        rintro e W5 ⟨rfl, hb⟩
        rw [HR.out]
        have BW5 := Lib.hid (BW4.out.trans (hb.mono BW4.out.size))
        have TA5 := Lib.hid ((hb.block _ (lt_of_block TA4.out)).trans TA4.out)
        have TB5 := Lib.hid ((hb.block _ (lt_of_block TB4.out)).trans TB4.out)
        have HA5 := Lib.hid (HA4.out.below hb)
        have HB5 := Lib.hid (HB4.out.below hb)
        clear hb BW4 TA4 TB4 HA4 HB4 c0 c1 c2 c3 c4 c5 cf d0 d1 d2 d3 d4 d5 df
        obtain ⟨c0, c1, c2, c3, c4, c5, cf⟩ := cells6 TA5.out
        obtain ⟨d0, d1, d2, d3, d4, d5, df⟩ := cells6 TB5.out
        go_wp2_with fail
        refine (RRight_any b _ bi di bo dt HSB.out W5 HB5.out).mono ?_
        rintro e W6 ⟨rfl, hb⟩
        rw [HS.out]
        have BW6 := Lib.hid (BW5.out.trans (hb.mono BW5.out.size))
        have TA6 := Lib.hid ((hb.block _ (lt_of_block TA5.out)).trans TA5.out)
        have TB6 := Lib.hid ((hb.block _ (lt_of_block TB5.out)).trans TB5.out)
        have HA6 := Lib.hid (HA5.out.below hb)
        have HB6 := Lib.hid (HB5.out.below hb)
        clear hb BW5 TA5 TB5 HA5 HB5 c0 c1 c2 c3 c4 c5 cf d0 d1 d2 d3 d4 d5 df
        obtain ⟨c0, c1, c2, c3, c4, c5, cf⟩ := cells6 TA6.out
        obtain ⟨d0, d1, d2, d3, d4, d5, df⟩ := cells6 TB6.out
        go_wp2_with fail
        refine (REqual_any a b _ _ ai ci ao ct bi di bo dt W6 HA6.out HB6.out).mono ?_
        rintro e W7 ⟨rfl, hb⟩
        rw [HW.out.2.2]
        have BW7 := Lib.hid (BW6.out.trans (hb.mono BW6.out.size))
        have TA7 := Lib.hid ((hb.block _ (lt_of_block TA6.out)).trans TA6.out)
        have TB7 := Lib.hid ((hb.block _ (lt_of_block TB6.out)).trans TB6.out)
        have HA7 := Lib.hid (HA6.out.below hb)
        have HB7 := Lib.hid (HB6.out.below hb)
        clear hb BW6 TA6 TB6 HA6 HB6 c0 c1 c2 c3 c4 c5 cf d0 d1 d2 d3 d4 d5 df
        obtain ⟨c0, c1, c2, c3, c4, c5, cf⟩ := cells6 TA7.out
        obtain ⟨d0, d1, d2, d3, d4, d5, df⟩ := cells6 TB7.out
        go_wp2_with fail
        refine (RCmp_any a b _ _ ai ci ao ct bi di bo dt HR.out HS.out W7 HA7.out HB7.out).mono ?_
        rintro e W8 ⟨rfl, hb⟩
        rw [HW.out.1]
        have BW8 := Lib.hid (BW7.out.trans (hb.mono BW7.out.size))
        have TA8 := Lib.hid ((hb.block _ (lt_of_block TA7.out)).trans TA7.out)
        have TB8 := Lib.hid ((hb.block _ (lt_of_block TB7.out)).trans TB7.out)
        have HA8 := Lib.hid (HA7.out.below hb)
        have HB8 := Lib.hid (HB7.out.below hb)
        clear hb BW7 TA7 TB7 HA7 HB7 c0 c1 c2 c3 c4 c5 cf d0 d1 d2 d3 d4 d5 df
        go_wp2_with fail
        refine (awake2_any _ (HE.out.below BW8.out)).mono ?_
        rintro e wz ⟨rfl, hb⟩
        have BZ := Lib.hid (BW8.out.trans (hb.mono BW8.out.size))
        clear hb
        go_wp2_with fail
        go_ret
        exact ⟨rfl, BZ.out⟩
      · have HW := Lib.hid hw
        clear hw HWY
        have G1 := Lib.hid (eqOut_good HR.out HS.out)
        have G2 := Lib.hid (cmp_good HR.out HS.out)
        have G3 := Lib.hid (cmp_good HS.out HR.out)
        obtain ⟨c0, c1, c2, c3, c4, c5, cf⟩ := cells6 TA1.out
        obtain ⟨d0, d1, d2, d3, d4, d5, df⟩ := cells6 TB1.out
        go_wp2_with fail
        refine (Equal_any a b _ _ ai ci ao ct bi di bo dt W1 HA1.out HB1.out (HE.out.below BW1.out)).mono ?_
        rintro e W2 ⟨rfl, hb⟩
        rw [G1.out.1, G1.out.2, HW.out.2.2]
        have BW2 := Lib.hid (BW1.out.trans (hb.mono BW1.out.size))
        have TA2 := Lib.hid ((hb.block _ (lt_of_block TA1.out)).trans TA1.out)
        have TB2 := Lib.hid ((hb.block _ (lt_of_block TB1.out)).trans TB1.out)
        have HA2 := Lib.hid (HA1.out.below hb)
        have HB2 := Lib.hid (HB1.out.below hb)
        clear hb BW1 TA1 TB1 HA1 HB1 c0 c1 c2 c3 c4 c5 cf d0 d1 d2 d3 d4 d5 df
        obtain ⟨c0, c1, c2, c3, c4, c5, cf⟩ := cells6 TA2.out
        obtain ⟨d0, d1, d2, d3, d4, d5, df⟩ := cells6 TB2.out
        go_wp2_with fail
        refine (Cmp_any a b _ _ ai ci ao ct bi di bo dt W2 HA2.out HB2.out (HE.out.below BW2.out)).mono ?_
        rintro e W3 ⟨rfl, hb⟩
        rw [G2.out.1, G2.out.2, HW.out.1]
        have BW3 := Lib.hid (BW2.out.trans (hb.mono BW2.out.size))
        have TA3 := Lib.hid ((hb.block _ (lt_of_block TA2.out)).trans TA2.out)
        have TB3 := Lib.hid ((hb.block _ (lt_of_block TB2.out)).trans TB2.out)
        have HA3 := Lib.hid (HA2.out.below hb)
        have HB3 := Lib.hid (HB2.out.below hb)
        clear hb BW2 TA2 TB2 HA2 HB2 c0 c1 c2 c3 c4 c5 cf d0 d1 d2 d3 d4 d5 df
        obtain ⟨c0, c1, c2, c3, c4, c5, cf⟩ := cells6 TA3.out
        obtain ⟨d0, d1, d2, d3, d4, d5, df⟩ := cells6 TB3.out
        go_wp2_with fail
        refine (Cmp_any b a _ _ bi di bo dt ai ci ao ct W3 HB3.out HA3.out (HE.out.below BW3.out)).mono ?_
        rintro e W4 ⟨rfl, hb⟩
        rw [G3.out.1, G3.out.2, HW.out.2.1]
        have BW4 := Lib.hid (BW3.out.trans (hb.mono BW3.out.size))
        have TA4 := Lib.hid ((hb.block _ (lt_of_block TA3.out)).trans TA3.out)
        have TB4 := Lib.hid ((hb.block _ (lt_of_block TB3.out)).trans TB3.out)
        have HA4 := Lib.hid (HA3.out.below hb)
        have HB4 := Lib.hid (HB3.out.below hb)
        clear hb BW3 TA3 TB3 HA3 HB3 c0 c1 c2 c3 c4 c5 cf d0 d1 d2 d3 d4 d5 df
        obtain ⟨c0, c1, c2, c3, c4, c5, cf⟩ := cells6 TA4.out
        obtain ⟨d0, d1, d2, d3, d4, d5, df⟩ := cells6 TB4.out
        go_wp2_with fail
        refine (RRight_any a _ ai ci ao ct HSA.out W4 HA4.out).mono ?_
        rintro e W5 ⟨rfl, hb⟩
        rw [HR.out]
        have BW5 := Lib.hid (BW4.out.trans (hb.mono BW4.out.size))
        have TA5 := Lib.hid ((hb.block _ (lt_of_block TA4.out)).trans TA4.out)
        have TB5 := Lib.hid ((hb.block _ (lt_of_block TB4.out)).trans TB4.out)
        have HA5 := Lib.hid (HA4.out.below hb)
        have HB5 := Lib.hid (HB4.out.below hb)
        clear hb BW4 TA4 TB4 HA4 HB4 c0 c1 c2 c3 c4 c5 cf d0 d1 d2 d3 d4 d5 df
        obtain ⟨c0, c1, c2, c3, c4, c5, cf⟩ := cells6 TA5.out
        obtain ⟨d0, d1, d2, d3, d4, d5, df⟩ := cells6 TB5.out
        go_wp2_with fail
        refine (RRight_any b _ bi di bo dt HSB.out W5 HB5.out).mono ?_
        rintro e W6 ⟨rfl, hb⟩
        rw [HS.out]
        have BW6 := Lib.hid (BW5.out.trans (hb.mono BW5.out.size))
        have TA6 := Lib.hid ((hb.block _ (lt_of_block TA5.out)).trans TA5.out)
        have TB6 := Lib.hid ((hb.block _ (lt_of_block TB5.out)).trans TB5.out)
        have HA6 := Lib.hid (HA5.out.below hb)
        have HB6 := Lib.hid (HB5.out.below hb)
        clear hb BW5 TA5 TB5 HA5 HB5 c0 c1 c2 c3 c4 c5 cf d0 d1 d2 d3 d4 d5 df
        obtain ⟨c0, c1, c2, c3, c4, c5, cf⟩ := cells6 TA6.out
        obtain ⟨d0, d1, d2, d3, d4, d5, df⟩ := cells6 TB6.out
        go_wp2_with fail
        refine (REqual_any a b _ _ ai ci ao ct bi di bo dt W6 HA6.out HB6.out).mono ?_
        rintro e W7 ⟨rfl, hb⟩
        rw [HW.out.2.2]
        have BW7 := Lib.hid (BW6.out.trans (hb.mono BW6.out.size))
        have TA7 := Lib.hid ((hb.block _ (lt_of_block TA6.out)).trans TA6.out)
        have TB7 := Lib.hid ((hb.block _ (lt_of_block TB6.out)).trans TB6.out)
        have HA7 := Lib.hid (HA6.out.below hb)
        have HB7 := Lib.hid (HB6.out.below hb)
        clear hb BW6 TA6 TB6 HA6 HB6 c0 c1 c2 c3 c4 c5 cf d0 d1 d2 d3 d4 d5 df
        obtain ⟨c0, c1, c2, c3, c4, c5, cf⟩ := cells6 TA7.out
        obtain ⟨d0, d1, d2, d3, d4, d5, df⟩ := cells6 TB7.out
        go_wp2_with fail
        refine (RCmp_any a b _ _ ai ci ao ct bi di bo dt HR.out HS.out W7 HA7.out HB7.out).mono ?_
        rintro e W8 ⟨rfl, hb⟩
        rw [HW.out.1]
        have BW8 := Lib.hid (BW7.out.trans (hb.mono BW7.out.size))
        have TA8 := Lib.hid ((hb.block _ (lt_of_block TA7.out)).trans TA7.out)
        have TB8 := Lib.hid ((hb.block _ (lt_of_block TB7.out)).trans TB7.out)
        have HA8 := Lib.hid (HA7.out.below hb)
        have HB8 := Lib.hid (HB7.out.below hb)
        clear hb BW7 TA7 TB7 HA7 HB7 c0 c1 c2 c3 c4 c5 cf d0 d1 d2 d3 d4 d5 df
        go_wp2_with fail
        refine (awake2_any _ (HE.out.below BW8.out)).mono ?_
        rintro e wz ⟨rfl, hb⟩
        have BZ := Lib.hid (BW8.out.trans (hb.mono BW8.out.size))
        clear hb
        go_wp2_with fail
        go_ret
        exact ⟨rfl, BZ.out⟩
end Go.Proofs.YtiofnjnaleglgaaGreatDoor
