/-
  Texts of mine in one file: AtV.
-/
import Derived.Test.YtiofnjnaleglgaaGreatDoorG21
import Derived.Test.YtiofnjnaleglgaaGreatDoorG22
import Derived.Test.YtiofnjnaleglgaaGreatDoorG12
/-
  An attribute as a value in memory; whether it is right, by the table's method for its kind.
-/
namespace Go.Proofs.YtiofnjnaleglgaaGreatDoor
open Go.RowKit

abbrev i64 (z : Int) : Prop := -9223372036854775808 ≤ z ∧ z ≤ 9223372036854775807
/-- The numbers of an attribute are what the machine holds. -/
structure At.Wf (a : At) : Prop where
  kind : i64 a.kind
  num : i64 a.num
  ints : ∀ z ∈ a.ints, i64 z
  ilen : a.ints.length ≤ 9223372036854775807
  tlen : a.texts.length ≤ 9223372036854775807
/-- A value is an attribute: its lists lie in memory. -/
structure AttAt (w : World) (a : At) (v : Value) (ai : Option Addr) (ci : Nat) (ao : Option Addr) (ct : Nat) : Prop where
  val : v = .agg #[.string a.name, .int .i64 a.kind, .int .i64 a.num, .string a.text, .slice ai a.ints.length ci, .slice ao a.texts.length ct]
  ints : IntsAt w ai a.ints
  texts : StrsAt w ao a.texts
  icap : a.ints.length ≤ ci
  tcap : a.texts.length ≤ ct
  wf : a.Wf
theorem AttAt.below {w w' : World} {a : At} {v : Value} {ai : Option Addr} {ci : Nat} {ao : Option Addr} {ct : Nat} (h : AttAt w a v ai ci ao ct) (hb : Below w.heap.size w w') : AttAt w' a v ai ci ao ct :=
  ⟨h.val, h.ints.below hb, h.texts.below hb, h.icap, h.tcap, h.wf⟩
theorem AttAt.zero (w : World) : AttAt w At.zero (.agg #[.string ⟨#[]⟩, .int .i64 0, .int .i64 0, .string ⟨#[]⟩, .slice none 0 0, .slice none 0 0]) none 0 none 0 :=
  ⟨rfl, .inl rfl, .inl rfl, Nat.le_refl _, Nat.le_refl _, ⟨⟨by decide, by decide⟩, ⟨by decide, by decide⟩, fun z hz => (by cases hz), by decide, by decide⟩⟩

/-- 'types.Check' at any string. -/
theorem Check_is (s : ByteArray) (w : World) (hE : Env w) :
    Calls Tryz.prog 123 #[.string s] w fun e w' => e = .returned (.int .i64 (if isTy s.data.toList = true then 0 else 10)) ∧ Below w.heap.size w w' := by
  cases h : isTy s.data.toList
  · exact (Check_no (isTy_no h) w hE).mono fun e w' ⟨he, hb⟩ => ⟨he, hb⟩
  · obtain ⟨k, b, r, e0, e1, e2, el, hT⟩ := isTy_yes h
    exact (Check_yes hT w hE).mono fun e w' ⟨he, hb⟩ => ⟨he, hb⟩

section
variable (nm : ByteArray) (k z : Int) (t : ByteArray) (ai : Option Addr) (n ci : Nat) (ao : Option Addr) (ct : Nat) (w : World)

set_option maxHeartbeats 400000 in
set_option maxRecDepth 100000 in
theorem rightType_any (m : Nat) (hE : Env w) : Calls Tryz.prog 101 #[.agg #[.string nm, .int .i64 k, .int .i64 z, .string t, .slice ai n ci, .slice ao m ct]] w
    fun e w' => e = .returned (.bool (((z == 0) && (n == 0) && (m == 0)) && isTy t.data.toList)) ∧ Below w.heap.size w w' := by
  have HE := Lib.hid hE
  clear hE
  generalize hu : ((z == 0) && (n == 0) && (m == 0)) = u
  have Hu := Lib.hid hu
  clear hu
  cases u
  · go_enter Tryz.func101, Tryz.ntmps101
    go_wp2_with fail
    refine (usesText_any nm k z t ai n ci ao m ct _).mono ?_
    rintro e w1 ⟨rfl, hb⟩
    have B1 := Lib.hid ((alloc_below _ _).trans (hb.mono (by simp)))
    clear hb
    rw [Hu.out]
    go_wp2_with fail
    go_ret
    exact ⟨rfl, B1.out⟩
  · go_enter Tryz.func101, Tryz.ntmps101
    go_wp2_with fail
    have T0 := Lib.hid (heap_alloc_new w (.cells #[.string nm, .int .i64 k, .int .i64 z, .string t, .slice ai n ci, .slice ao m ct] 74))
    refine (usesText_any nm k z t ai n ci ao m ct _).mono ?_
    rintro e w1 ⟨rfl, hb⟩
    have T1 := (hb.block _ (lt_of_block T0.out)).trans T0.out
    have B1 := Lib.hid ((alloc_below _ _).trans (hb.mono (by simp)))
    obtain ⟨c0, c1, c2, c3, c4, c5, cf⟩ := cells6 T1
    clear hb T1
    rw [Hu.out]
    go_wp2_with fail
    refine (Check_is t _ (HE.out.below B1.out)).mono ?_
    rintro e w2 ⟨rfl, hb⟩
    have B2 := Lib.hid (B1.out.trans (hb.mono B1.out.size))
    clear hb
    cases hty : isTy t.data.toList
    · have HT := Lib.hid hty
      clear hty
      go_wp2_with fail
      go_ret
      exact ⟨by rw [HT.out]; rfl, B2.out⟩
    · have HT := Lib.hid hty
      clear hty
      go_wp2_with fail
      go_ret
      exact ⟨by rw [HT.out]; rfl, B2.out⟩
end

theorem tys_at {ss : List ByteArray} {m : Nat} (hm : m < ss.length) (h : isTy (ss[m]?.getD ByteArray.empty).data.toList = false) : tysB ss = false := all_at hm h
theorem tys_all {ss : List ByteArray} (h : ∀ j, j < ss.length → isTy (ss[j]?.getD ByteArray.empty).data.toList = true) : tysB ss = true := by
  unfold tysB
  rw [List.all_eq_true]
  intro s hs
  obtain ⟨j, hj, rfl⟩ := List.mem_iff_getElem.1 hs
  have := h j hj
  rwa [List.getElem?_eq_getElem hj] at this

set_option maxHeartbeats 1000000 in
set_option maxRecDepth 100000 in
theorem rightTypes_any (nm : ByteArray) (k z : Int) (t : ByteArray) (ai : Option Addr) (n ci : Nat) (ao : Option Addr) (ct : Nat) (w : World) (ss : List ByteArray) (hz : StrsAt w ao ss) (hE : Env w) :
    Calls Tryz.prog 107 #[.agg #[.string nm, .int .i64 k, .int .i64 z, .string t, .slice ai n ci, .slice ao ss.length ct]] w
    fun e w' => e = .returned (.bool ((z == 0) && (t.size == 0) && (n == 0) && decide (ss.length ≤ 100) && tysB ss)) ∧ Below w.heap.size w w' := by
  have HE := Lib.hid hE
  have HZ := Lib.hid hz
  clear hE hz
  by_cases hz : z = 0
  rotate_left
  · skip
    have hf := Lib.hid (show ((z == 0) && (t.size == 0) && (n == 0) && decide (ss.length ≤ 100) && tysB ss) = false by simp [hz])
    go_enter Tryz.func107, Tryz.ntmps107
    go_wp2_with fail
    go_ret
    exact ⟨by first | (rw [hf.out]; rfl) | rfl, alloc_below _ _⟩
  subst hz
  by_cases hs : t = ByteArray.empty
  rotate_left
  · have h0 := size_ne hs
    have hs2 := toList_ne hs
    have hf := Lib.hid (show (((0 : Int) == 0) && (t.size == 0) && (n == 0) && decide (ss.length ≤ 100) && tysB ss) = false by rw [h0]; simp)
    go_enter Tryz.func107, Tryz.ntmps107
    go_wp2_with fail
    go_ret
    exact ⟨by first | (rw [hf.out]; rfl) | rfl, alloc_below _ _⟩
  subst hs
  by_cases hn : n = 0
  rotate_left
  · have hx : (0 : Int) < n := by omega
    have hf := Lib.hid (show (((0 : Int) == 0) && (ByteArray.empty.size == 0) && (n == 0) && decide (ss.length ≤ 100) && tysB ss) = false by simp [hn])
    go_enter Tryz.func107, Tryz.ntmps107
    go_wp2_with fail
    go_ret
    exact ⟨by first | (rw [hf.out]; rfl) | rfl, alloc_below _ _⟩
  subst hn
  by_cases hm : ss.length ≤ 100
  rotate_left
  · have hx : (100 : Int) < ss.length := by omega
    have hf := Lib.hid (show (((0 : Int) == 0) && (ByteArray.empty.size == 0) && ((0 : Nat) == 0) && decide (ss.length ≤ 100) && tysB ss) = false by rw [decide_eq_false hm]; simp)
    go_enter Tryz.func107, Tryz.ntmps107
    go_wp2_with fail
    go_ret
    exact ⟨by first | (rw [hf.out]; rfl) | rfl, alloc_below _ _⟩
  have hx : ¬ (100 : Int) < ss.length := by omega
  have hres := Lib.hid (show (((0 : Int) == 0) && (ByteArray.empty.size == 0) && ((0 : Nat) == 0) && decide (ss.length ≤ 100) && tysB ss) = tysB ss by rw [decide_eq_true hm]; rfl)
  go_enter Tryz.func107, Tryz.ntmps107
  go_wp2_with fail
  go_loopw [28, 4] (fun i _ wr => ∃ m : Nat, m ≤ ss.length ∧ i = .int .i64 m ∧ Hid (∀ j, j < m → isTy (ss[j]?.getD ByteArray.empty).data.toList = true) ∧ Hid (Below w.heap.size w wr)) (fun i _ _ => ss.length - (intOf i).toNat)
  case atStart => exact ⟨0, Nat.zero_le _, rfl, fun j hj => absurd hj (Nat.not_lt_zero _), alloc_below _ _⟩
  case round =>
    obtain ⟨m, hm, rfl, hall, HB⟩ := hrel
    by_cases hlt : m < ss.length
    · rcases HZ.out.below HB.out with h0 | ⟨a, rfl, hc⟩
      · rw [h0] at hlt; exact absurd hlt (Nat.not_lt_zero _)
      have hcm := hc m hlt
      clear hc
      obtain ⟨s, hs⟩ : ∃ s, s = ss[m]?.getD ByteArray.empty := ⟨_, rfl⟩
      rw [← hs] at hcm
      have HS := Lib.hid hs
      clear hs
      cases hty : isTy s.data.toList
      · have hf := Lib.hid (show tysB ss = false from tys_at hlt (by rw [← HS.out]; exact hty))
        have HT := Lib.hid hty
        clear hty
        go_wp2_with fail
        refine (Check_is s _ (HE.out.below HB.out)).mono ?_
        rintro e w2 ⟨rfl, hb2⟩
        have HB2 := Lib.hid (HB.out.trans (hb2.mono HB.out.size))
        clear hb2
        rw [HT.out]
        go_wp2_with fail
        go_ret
        exact ⟨by rw [hres.out, hf.out]; rfl, HB2.out⟩
      · have HT := Lib.hid hty
        clear hty
        go_wp2_with fail
        refine (Check_is s _ (HE.out.below HB.out)).mono ?_
        rintro e w2 ⟨rfl, hb2⟩
        have HB2 := Lib.hid (HB.out.trans (hb2.mono HB.out.size))
        clear hb2
        rw [HT.out]
        go_wp2_with fail
        go_roundw
        case rel => exact ⟨m + 1, by omega, by go_num, fun j hj => (Nat.lt_succ_iff_lt_or_eq.1 hj).elim (hall.out j) (fun e => by subst e; rw [← HS.out]; exact HT.out), HB2.out⟩
        case measure => simp [intOf]; omega
    · obtain rfl : m = ss.length := by omega
      have hf := Lib.hid (tys_all hall.out)
      go_wp2_with fail
      go_ret
      exact ⟨by rw [hres.out, hf.out]; rfl, HB.out⟩
end Go.Proofs.YtiofnjnaleglgaaGreatDoor

