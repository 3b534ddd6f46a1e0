/-
  The reference's 'Cmp' by its contract, and what the order of attributes is.
-/
import Derived.Test.YtiofnjnaleglgaaGreatDoorKAtRU
import Derived.Test.YtiofnjnaleglgaaGreatDoorKAtEP
import Derived.Test.YtiofnjnaleglgaaGreatDoorG38
import Derived.Deep.RegionHeld3
import Derived.Deep.Cut
import Derived.Deep.DeepCutAuto
import Derived.BigRegion
namespace Go.Proofs.YtiofnjnaleglgaaGreatDoor
open Go.RowKit

theorem cmpB_range : ∀ a b : List UInt8, Lib.compareBytes a b = -1 ∨ Lib.compareBytes a b = 0 ∨ Lib.compareBytes a b = 1
  | [], [] => by rw [Lib.compareBytes]; decide
  | [], _ :: _ => by rw [Lib.compareBytes]; decide
  | _ :: _, [] => by rw [Lib.compareBytes]; decide
  | a :: x, b :: y => by
    rw [Lib.compareBytes]
    split
    · exact .inl rfl
    · split
      · exact .inr (.inr rfl)
      · exact cmpB_range x y
theorem cmpB_neg (a b : List UInt8) : Lib.compareBytes b a = -Lib.compareBytes a b := by
  have h1 := cmpB_range a b
  have h2 := cmpB_range b a
  have l1 := cmpB_lt a b
  have l2 := cmpB_gt b a
  have g1 := cmpB_gt a b
  have g2 := cmpB_lt b a
  rcases h1 with h | h | h
  · have := l2.2 (l1.1 (by rw [h]; decide))
    omega
  · have e := (cmpB_eq a b).1 h
    rw [e, (cmpB_eq b b).2 rfl]
    decide
  · have := g2.2 (g1.1 (by rw [h]; decide))
    omega
theorem kcmp_range (a b : Int) : kcmp a b = -1 ∨ kcmp a b = 0 ∨ kcmp a b = 1 := by
  unfold kcmp
  split
  · exact .inl rfl
  · split
    · exact .inr (.inr rfl)
    · exact .inr (.inl rfl)
theorem kcmp_neg (a b : Int) : kcmp b a = -kcmp a b := by
  unfold kcmp
  rcases Int.lt_trichotomy a b with h | h | h
  · rw [if_neg (by omega), if_pos h, if_pos h]; rfl
  · subst h; rw [if_neg (by omega), if_neg (by omega)]; rfl
  · rw [if_pos h, if_neg (by omega), if_pos h]
theorem kcmp_eq {a b : Int} (h : kcmp a b = 0) : a = b := by
  unfold kcmp at h
  rcases Int.lt_trichotomy a b with k | k | k
  · rw [if_pos k] at h; cases h
  · exact k
  · rw [if_neg (by omega), if_pos k] at h; cases h
theorem cmpL_range (a b : At) : cmpL a b = -1 ∨ cmpL a b = 0 ∨ cmpL a b = 1 := by
  unfold cmpL orL
  split
  · split
    · exact cmpB_range _ _
    · exact kcmp_range _ _
  · exact cmpB_range _ _
theorem cmpL_neg (a b : At) : cmpL b a = -cmpL a b := by
  unfold cmpL orL
  rw [cmpB_neg a.name.data.toList, kcmp_neg a.kind, cmpB_neg (valueL a)]
  rcases cmpB_range a.name.data.toList b.name.data.toList with h | h | h <;> rcases kcmp_range a.kind b.kind with k | k | k <;> rw [h, k] <;> rfl
theorem cmpL_self (a : At) : cmpL a a = 0 := by
  have := cmpL_neg a a
  omega
theorem cmpL_eq {w : World} (hE : Env w) {a b : At} (ha : rightB a = true) (hb : rightB b = true) (wa : a.Wf) (wb : b.Wf) (h : cmpL a b = 0) : a = b := by
  unfold cmpL orL at h
  by_cases h1 : Lib.compareBytes a.name.data.toList b.name.data.toList = 0
  · rw [if_pos h1] at h
    by_cases h2 : kcmp a.kind b.kind = 0
    · rw [if_pos h2] at h
      exact (value_uniq hE ha hb wa wb (bytes_inj ((cmpB_eq _ _).1 h1)).symm ((cmpB_eq _ _).1 h).symm).symm
    · rw [if_neg h2] at h; exact absurd h h2
  · rw [if_neg h1] at h; exact absurd h h1

set_option maxHeartbeats 400000 in
theorem Rcmp_any (x y : ByteArray) (w : World) : Calls Tryz.prog 52 #[.string x, .string y] w fun e w' => e = .returned (.int .i64 (Lib.compareBytes x.data.toList y.data.toList)) ∧ w = w' := by
  have h1 := lessB_iff x y
  have h2 : lessB y x = true ↔ 0 < Lib.compareBytes x.data.toList y.data.toList := by
    rw [lessB_iff, cmpB_neg x.data.toList]; omega
  unfold lessB at h1 h2
  have hr := cmpB_range x.data.toList y.data.toList
  cases hl : Op.bytesLess x.toList y.toList with
  | true =>
    have h3 := h1.1 hl
    have HC := Lib.hid (congrArg (fun z => Ending.returned (Value.int .i64 z)) (show Lib.compareBytes x.data.toList y.data.toList = -1 by omega))
    clear h1 h2 h3 hr
    go_enter Tryz.func52, Tryz.ntmps52
    go_wp2_with fail
    go_ret
    exact ⟨HC.out.symm, rfl⟩
  | false =>
    cases hg : Op.bytesLess y.toList x.toList with
    | true =>
      have h3 := h2.1 hg
      have HC := Lib.hid (congrArg (fun z => Ending.returned (Value.int .i64 z)) (show Lib.compareBytes x.data.toList y.data.toList = 1 by omega))
      have hbe : (x.toList == y.toList) = false := ne_beq (fun e => by rw [e, (cmpB_eq _ _).2 rfl] at h3; exact absurd h3 (by decide))
      clear h1 h2 h3 hr
      go_enter Tryz.func52, Tryz.ntmps52
      go_wp2_with fail
      go_ret
      exact ⟨HC.out.symm, rfl⟩
    | false =>
      have h3 : ¬ Lib.compareBytes x.data.toList y.data.toList < 0 := fun h => by rw [h1.2 h] at hl; cases hl
      have h4 : ¬ 0 < Lib.compareBytes x.data.toList y.data.toList := fun h => by rw [h2.2 h] at hg; cases hg
      have HC := Lib.hid (congrArg (fun z => Ending.returned (Value.int .i64 z)) (show Lib.compareBytes x.data.toList y.data.toList = 0 by omega))
      have hbe : (x.toList == y.toList) = true := str_beq (bytes_inj ((cmpB_eq _ _).1 (by omega)))
      clear h1 h2 h3 h4 hr
      go_enter Tryz.func52, Tryz.ntmps52
      go_wp2_with fail
      go_ret
      exact ⟨HC.out.symm, rfl⟩

theorem ret_int {x y : Int} (h : x = y) : Ending.returned (Value.int .i64 x) = Ending.returned (Value.int .i64 y) := by rw [h]
set_option maxHeartbeats 4000000 in
set_option maxRecDepth 100000 in
theorem RCmp_any (a b : At) (va vb : Value) (ai : Option Addr) (ci : Nat) (ao : Option Addr) (ct : Nat) (bi : Option Addr) (di : Nat) (bo : Option Addr) (dt : Nat) (hr : rightB a = true) (hs : rightB b = true) (w : World) (ha : AttAt w a va ai ci ao ct) (hb : AttAt w b vb bi di bo dt) :
    Calls Tryz.prog 28 #[va, vb] w fun e w' => e = .returned (.int .i64 (cmpL a b)) ∧ Below w.heap.size w w' := by
  have HR := Lib.hid hr
  have HS := Lib.hid hs
  have hva := ha.val
  have hvb := hb.val
  have HA0 := Lib.hid ha
  have HB0 := Lib.hid hb
  clear ha hb hr hs
  subst hva hvb
  go_enter Tryz.func28, Tryz.ntmps28
  go_upto_region 1 with fail
  obtain ⟨P0, hP0⟩ : ∃ P0, P0 = w.heap.size := ⟨_, rfl⟩
  obtain ⟨W1, hW1⟩ : ∃ W1, W1 = (w.alloc (.cells #[.string a.name, .int .i64 a.kind, .int .i64 a.num, .string a.text, .slice ai a.ints.length ci, .slice ao a.texts.length ct] 29)).alloc (.cells #[.string b.name, .int .i64 b.kind, .int .i64 b.num, .string b.text, .slice bi b.ints.length di, .slice bo b.texts.length dt] 29) := ⟨_, rfl⟩
  have TA : Hid (W1.heap[P0]? = some (.cells #[.string a.name, .int .i64 a.kind, .int .i64 a.num, .string a.text, .slice ai a.ints.length ci, .slice ao a.texts.length ct] 29 (0, 0))) := by
    show W1.heap[P0]? = _
    rw [hW1, hP0]
    exact (Below.heap_alloc _ _ _ (by simp)).trans (heap_alloc_new _ _)
  have TB : Hid (W1.heap[P0 + 1]? = some (.cells #[.string b.name, .int .i64 b.kind, .int .i64 b.num, .string b.text, .slice bi b.ints.length di, .slice bo b.texts.length dt] 29 (0, 0))) := by
    have := heap_alloc_new (w.alloc (.cells #[.string a.name, .int .i64 a.kind, .int .i64 a.num, .string a.text, .slice ai a.ints.length ci, .slice ao a.texts.length ct] 29)) (.cells #[.string b.name, .int .i64 b.kind, .int .i64 b.num, .string b.text, .slice bi b.ints.length di, .slice bo b.texts.length dt] 29)
    show W1.heap[P0 + 1]? = _
    rw [hW1, hP0]
    simpa using this
  have BW : Hid (Below w.heap.size w W1) := by
    show Below _ _ _
    rw [hW1]
    exact ((Below.refl _ w).alloc (Nat.le_refl _) _).alloc (by simp) _
  rw [← hW1, ← hP0]
  clear hW1 hP0
  have HA := Lib.hid (HA0.out.below BW.out)
  have HB := Lib.hid (HB0.out.below BW.out)
  clear HA0 HB0
  obtain ⟨c0, c1, c2, c3, c4, c5, cf⟩ := cells6 TA.out
  obtain ⟨d0, d1, d2, d3, d4, d5, df⟩ := cells6 TB.out
  by_cases hn : a.name = b.name
  rotate_left
  · have HNE := Lib.hid (show ¬ Lib.compareBytes a.name.data.toList b.name.data.toList = 0 from fun e => hn (bytes_inj ((cmpB_eq _ _).1 e)))
    have HC := Lib.hid (show Lib.compareBytes a.name.data.toList b.name.data.toList = cmpL a b by unfold cmpL orL; rw [if_neg HNE.out])
    have xn := ne_beq hn
    clear hn
    go_wp2_with fail
    refine (Rcmp_any a.name b.name _).mono ?_
    rintro e w9 ⟨rfl, rfl⟩
    rw [HC.out]
    go_wp2_with fail
    go_ret
    exact ⟨rfl, BW.out⟩
  have H0 := Lib.hid (show Lib.compareBytes a.name.data.toList b.name.data.toList = 0 by rw [hn]; exact (cmpB_eq _ _).2 rfl)
  have xn := str_beq hn
  clear hn
  rcases Int.lt_trichotomy a.kind b.kind with hk | hk | hk
  · have HC := Lib.hid (show -1 = cmpL a b by unfold cmpL orL kcmp; rw [if_pos H0.out, if_pos hk, if_neg (by decide)])
    go_wp2_with fail
    go_ret
    exact ⟨ret_int HC.out, BW.out⟩
  rotate_left
  · have hk2 : ¬ a.kind < b.kind := by omega
    have HC := Lib.hid (show 1 = cmpL a b by unfold cmpL orL kcmp; rw [if_pos H0.out, if_neg hk2, if_pos hk, if_neg (by decide)])
    go_wp2_with fail
    go_ret
    exact ⟨ret_int HC.out, BW.out⟩
  have HCMP := Lib.hid (show Lib.compareBytes (valueL a) (valueL b) = cmpL a b by unfold cmpL orL kcmp; rw [if_pos H0.out, if_neg (show ¬ a.kind < b.kind by omega), if_neg (show ¬ b.kind < a.kind by omega), if_pos rfl])
  have hk1 : ¬ a.kind < b.kind := by omega
  have hk2 : ¬ b.kind < a.kind := by omega
  clear hk
  go_upto_region 7 with fail
  have hS : CmpS W1 P0 (P0 + 1) (.string a.name) (.int .i64 a.kind) (.int .i64 a.num) (.string a.text) (.slice ai a.ints.length ci) (.slice ao a.texts.length ct) (.string b.name) (.int .i64 b.kind) (.int .i64 b.num) (.string b.text) (.slice bi b.ints.length di) (.slice bo b.texts.length dt) W1 := ⟨c0, c1, c2, c3, c4, c5, d0, d1, d2, d3, d4, d5, Below.refl _ _⟩
  have HSD := hS.step (Below.refl W1.heap.size W1).drew
  have HFIN := Lib.hid (show ∀ X, (X.cell? ⟨P0, 0, none⟩ = some (.string a.name) ∧ X.cell? ⟨P0, 1, none⟩ = some (.int .i64 a.kind) ∧ X.cell? ⟨P0, 2, none⟩ = some (.int .i64 a.num) ∧ X.cell? ⟨P0, 3, none⟩ = some (.string a.text) ∧ X.cell? ⟨P0, 4, none⟩ = some (.slice ai a.ints.length ci) ∧ X.cell? ⟨P0, 5, none⟩ = some (.slice ao a.texts.length ct) ∧ X.cell? ⟨P0 + 1, 0, none⟩ = some (.string b.name) ∧ X.cell? ⟨P0 + 1, 1, none⟩ = some (.int .i64 b.kind) ∧ X.cell? ⟨P0 + 1, 2, none⟩ = some (.int .i64 b.num) ∧ X.cell? ⟨P0 + 1, 3, none⟩ = some (.string b.text) ∧ X.cell? ⟨P0 + 1, 4, none⟩ = some (.slice bi b.ints.length di) ∧ X.cell? ⟨P0 + 1, 5, none⟩ = some (.slice bo b.texts.length dt) ∧ Hid (Below W1.heap.size W1 X)) → Below w.heap.size w X from fun X h => BW.out.trans ((CmpS.below (V := W1) (p := P0) (q := P0 + 1) h).mono BW.out.size))
  have HVA := Lib.hid (show ∀ X, (X.cell? ⟨P0, 0, none⟩ = some (.string a.name) ∧ X.cell? ⟨P0, 1, none⟩ = some (.int .i64 a.kind) ∧ X.cell? ⟨P0, 2, none⟩ = some (.int .i64 a.num) ∧ X.cell? ⟨P0, 3, none⟩ = some (.string a.text) ∧ X.cell? ⟨P0, 4, none⟩ = some (.slice ai a.ints.length ci) ∧ X.cell? ⟨P0, 5, none⟩ = some (.slice ao a.texts.length ct) ∧ X.cell? ⟨P0 + 1, 0, none⟩ = some (.string b.name) ∧ X.cell? ⟨P0 + 1, 1, none⟩ = some (.int .i64 b.kind) ∧ X.cell? ⟨P0 + 1, 2, none⟩ = some (.int .i64 b.num) ∧ X.cell? ⟨P0 + 1, 3, none⟩ = some (.string b.text) ∧ X.cell? ⟨P0 + 1, 4, none⟩ = some (.slice bi b.ints.length di) ∧ X.cell? ⟨P0 + 1, 5, none⟩ = some (.slice bo b.texts.length dt) ∧ Hid (Below W1.heap.size W1 X)) → Calls Tryz.prog 32 #[.agg #[.string a.name, .int .i64 a.kind, .int .i64 a.num, .string a.text, .slice ai a.ints.length ci, .slice ao a.texts.length ct]] X (fun e w' => e = .returned (.string ⟨(valueL a).toArray⟩) ∧ Below X.heap.size X w') from
    fun X h => RValue_any a _ ai ci ao ct HR.out X (HA.out.below (CmpS.below (V := W1) (p := P0) (q := P0 + 1) h)))
  have HVB := Lib.hid (show ∀ X, (X.cell? ⟨P0, 0, none⟩ = some (.string a.name) ∧ X.cell? ⟨P0, 1, none⟩ = some (.int .i64 a.kind) ∧ X.cell? ⟨P0, 2, none⟩ = some (.int .i64 a.num) ∧ X.cell? ⟨P0, 3, none⟩ = some (.string a.text) ∧ X.cell? ⟨P0, 4, none⟩ = some (.slice ai a.ints.length ci) ∧ X.cell? ⟨P0, 5, none⟩ = some (.slice ao a.texts.length ct) ∧ X.cell? ⟨P0 + 1, 0, none⟩ = some (.string b.name) ∧ X.cell? ⟨P0 + 1, 1, none⟩ = some (.int .i64 b.kind) ∧ X.cell? ⟨P0 + 1, 2, none⟩ = some (.int .i64 b.num) ∧ X.cell? ⟨P0 + 1, 3, none⟩ = some (.string b.text) ∧ X.cell? ⟨P0 + 1, 4, none⟩ = some (.slice bi b.ints.length di) ∧ X.cell? ⟨P0 + 1, 5, none⟩ = some (.slice bo b.texts.length dt) ∧ Hid (Below W1.heap.size W1 X)) → Calls Tryz.prog 32 #[.agg #[.string b.name, .int .i64 b.kind, .int .i64 b.num, .string b.text, .slice bi b.ints.length di, .slice bo b.texts.length dt]] X (fun e w' => e = .returned (.string ⟨(valueL b).toArray⟩) ∧ Below X.heap.size X w') from
    fun X h => RValue_any b _ bi di bo dt HS.out X (HB.out.below (CmpS.below (V := W1) (p := P0) (q := P0 + 1) h)))
  clear hS c0 c1 c2 c3 c4 c5 cf d0 d1 d2 d3 d4 d5 df HR HS TA TB BW HA HB xn hk1 hk2 H0
  generalize a.name = na at HSD HVA HVB HFIN ⊢
  generalize a.kind = ka at HSD HVA HVB HFIN ⊢
  generalize a.num = za at HSD HVA HVB HFIN ⊢
  generalize a.text = ta at HSD HVA HVB HFIN ⊢
  generalize a.ints.length = la at HSD HVA HVB HFIN ⊢
  generalize a.texts.length = ma at HSD HVA HVB HFIN ⊢
  generalize b.name = nb at HSD HVA HVB HFIN ⊢
  generalize b.kind = kb at HSD HVA HVB HFIN ⊢
  generalize b.num = zb at HSD HVA HVB HFIN ⊢
  generalize b.text = tb at HSD HVA HVB HFIN ⊢
  generalize b.ints.length = lb at HSD HVA HVB HFIN ⊢
  generalize b.texts.length = mb at HSD HVA HVB HFIN ⊢
  generalize valueL a = xa at HVA HCMP
  generalize valueL b = xb at HVB HCMP
  go_cut [4] (fun z w' => z = .int .i64 (cmpL a b) ∧ Hid (Below w.heap.size w w'))
  case first =>
    go_region_held3 (fun w' => w'.cell? ⟨P0, 0, none⟩ = some (.string na) ∧ w'.cell? ⟨P0, 1, none⟩ = some (.int .i64 ka) ∧ w'.cell? ⟨P0, 2, none⟩ = some (.int .i64 za) ∧ w'.cell? ⟨P0, 3, none⟩ = some (.string ta) ∧ w'.cell? ⟨P0, 4, none⟩ = some (.slice ai la ci) ∧ w'.cell? ⟨P0, 5, none⟩ = some (.slice ao ma ct) ∧ w'.cell? ⟨P0 + 1, 0, none⟩ = some (.string nb) ∧ w'.cell? ⟨P0 + 1, 1, none⟩ = some (.int .i64 kb) ∧ w'.cell? ⟨P0 + 1, 2, none⟩ = some (.int .i64 zb) ∧ w'.cell? ⟨P0 + 1, 3, none⟩ = some (.string tb) ∧ w'.cell? ⟨P0 + 1, 4, none⟩ = some (.slice bi lb di) ∧ w'.cell? ⟨P0 + 1, 5, none⟩ = some (.slice bo mb dt) ∧ Hid (Below W1.heap.size W1 w')) (first | exact HSD | assumption | exact CmpS.step (V := W1) (p := P0) (q := P0 + 1) (by assumption) (by assumption)) (
        (first
          | (go_at_call 52; refine (Rcmp_any _ _ _).mono ?_; rintro e w' ⟨rfl, rfl⟩)
          | (go_at_call 32; with_reducible refine (HVA.out _ (by assumption)).mono ?_; rintro e w' ⟨rfl, hb⟩)
          | (go_at_call 32; with_reducible refine (HVB.out _ (by assumption)).mono ?_; rintro e w' ⟨rfl, hb⟩)))
    all_goals
      go_wp2_with fail
      go_meet
      exact ⟨by rw [← HCMP.out], HFIN.out _ (by assumption)⟩
  case rest =>
    obtain ⟨rfl, hb⟩ := hcut
    have HBF := Lib.hid hb
    clear hb
    go_wp2_with fail
    go_ret
    exact ⟨rfl, HBF.out⟩
end Go.Proofs.YtiofnjnaleglgaaGreatDoor
