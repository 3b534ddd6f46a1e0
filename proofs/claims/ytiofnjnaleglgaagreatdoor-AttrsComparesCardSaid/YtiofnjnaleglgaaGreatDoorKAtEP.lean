/-
  'Equal' by its contract.
-/
import Derived.Test.YtiofnjnaleglgaaGreatDoorKAtEQ
import Derived.Test.YtiofnjnaleglgaaGreatDoorG39
namespace Go.Proofs.YtiofnjnaleglgaaGreatDoor
open Go.RowKit

/-- What 'Equal' answers. -/
noncomputable def eqOut (a b : At) : Bool := if rightB a && rightB b then eqA a b else false
theorem eqOut_good {a b : At} (ha : rightB a = true) (hb : rightB b = true) : eqOut a b = eqA a b ∧ cmpErr a b = 0 := by
  unfold eqOut cmpErr
  rw [ha, hb]
  exact ⟨rfl, rfl⟩
theorem eqOut_bad {a b : At} (h : (rightB a && rightB b) = false) : eqOut a b = false ∧ cmpErr a b = 20 := by
  unfold eqOut cmpErr
  rw [h]
  exact ⟨rfl, rfl⟩
def EqPost (a b : At) (w : World) (e : Ending) (w' : World) : Prop := e = .returned (.tuple #[.bool (eqOut a b), .int .i64 (cmpErr a b)]) ∧ Below w.heap.size w w'
theorem eqPost_bad {a b : At} {w w' : World} (h : (rightB a && rightB b) = false) (hb : Below w.heap.size w w') : EqPost a b w (.returned (.tuple #[.bool false, .int .i64 20])) w' := by
  unfold EqPost
  rw [(eqOut_bad h).1, (eqOut_bad h).2]
  exact ⟨rfl, hb⟩
theorem eqPost_ne {a b : At} {w w' : World} (ha : rightB a = true) (hr : rightB b = true) (h : a ≠ b) (hb : Below w.heap.size w w') : EqPost a b w (.returned (.tuple #[.bool false, .int .i64 0])) w' := by
  unfold EqPost
  rw [(eqOut_good ha hr).1, (eqOut_good ha hr).2, eqA_no h]
  exact ⟨rfl, hb⟩
theorem eqPost_eq {a b : At} {w w' : World} (ha : rightB a = true) (hr : rightB b = true) (h : a = b) (hb : Below w.heap.size w w') : EqPost a b w (.returned (.tuple #[.bool true, .int .i64 0])) w' := by
  unfold EqPost
  rw [(eqOut_good ha hr).1, (eqOut_good ha hr).2, eqA_yes h]
  exact ⟨rfl, hb⟩

set_option maxHeartbeats 4000000 in
set_option maxRecDepth 100000 in
theorem Equal_any (a b : At) (va vb : Value) (ai : Option Addr) (ci : Nat) (ao : Option Addr) (ct : Nat) (bi : Option Addr) (di : Nat) (bo : Option Addr) (dt : Nat) (w : World) (ha : AttAt w a va ai ci ao ct) (hb : AttAt w b vb bi di bo dt) (hE : Env w) :
    Calls Tryz.prog 26 #[va, vb] w (EqPost a b w) := by
  have HE := Lib.hid hE
  have hva := ha.val
  have hvb := hb.val
  have HA0 := Lib.hid ha
  have HB0 := Lib.hid hb
  clear ha hb hE
  subst hva hvb
  go_enter Tryz.func26, Tryz.ntmps26
  go_upto_region 1 with fail
  obtain ⟨P0, hP0⟩ : ∃ P0, P0 = w.heap.size := ⟨_, rfl⟩
  obtain ⟨W1, hW1⟩ : ∃ W1, W1 = (w.alloc (.cells #[.string a.name, .int .i64 a.kind, .int .i64 a.num, .string a.text, .slice ai a.ints.length ci, .slice ao a.texts.length ct] 29)).alloc (.cells #[.string b.name, .int .i64 b.kind, .int .i64 b.num, .string b.text, .slice bi b.ints.length di, .slice bo b.texts.length dt] 29) := ⟨_, rfl⟩
  have TA : Hid (W1.heap[P0]? = some (.cells #[.string a.name, .int .i64 a.kind, .int .i64 a.num, .string a.text, .slice ai a.ints.length ci, .slice ao a.texts.length ct] 29 (0, 0))) := by
    show W1.heap[P0]? = _
    rw [hW1, hP0]
    exact (Below.heap_alloc _ _ _ (by simp)).trans (heap_alloc_new _ _)
  have TB : Hid (W1.heap[P0 + 1]? = some (.cells #[.string b.name, .int .i64 b.kind, .int .i64 b.num, .string b.text, .slice bi b.ints.length di, .slice bo b.texts.length dt] 29 (0, 0))) := by
    have := heap_alloc_new (w.alloc (.cells #[.string a.name, .int .i64 a.kind, .int .i64 a.num, .string a.text, .slice ai a.ints.length ci, .slice ao a.texts.length ct] 29)) (.cells #[.string b.name, .int .i64 b.kind, .int .i64 b.num, .string b.text, .slice bi b.ints.length di, .slice bo b.texts.length dt] 29)
    show W1.heap[P0 + 1]? = _
    rw [hW1, hP0]
    simpa using this
  have BW : Hid (Below w.heap.size w W1) := by
    show Below _ _ _
    rw [hW1]
    exact ((Below.refl _ w).alloc (Nat.le_refl _) _).alloc (by simp) _
  rw [← hW1, ← hP0]
  clear hW1 hP0
  have HA := Lib.hid (HA0.out.below BW.out)
  have HB := Lib.hid (HB0.out.below BW.out)
  clear HA0 HB0
  obtain ⟨c0, c1, c2, c3, c4, c5, cf⟩ := cells6 TA.out
  obtain ⟨d0, d1, d2, d3, d4, d5, df⟩ := cells6 TB.out
  go_wp2_with fail
  refine (isRight_any a _ ai ci ao ct W1 HA.out (HE.out.below BW.out)).mono ?_
  rintro e w2 ⟨rfl, hb⟩
  have BW2 := Lib.hid (BW.out.trans (hb.mono BW.out.size))
  have TA2 := Lib.hid ((hb.block _ (lt_of_block TA.out)).trans TA.out)
  have TB2 := Lib.hid ((hb.block _ (lt_of_block TB.out)).trans TB.out)
  have HA2 := Lib.hid (HA.out.below hb)
  have HB2 := Lib.hid (HB.out.below hb)
  clear hb BW TA TB HA HB c0 c1 c2 c3 c4 c5 cf d0 d1 d2 d3 d4 d5 df
  obtain ⟨c0, c1, c2, c3, c4, c5, cf⟩ := cells6 TA2.out
  obtain ⟨d0, d1, d2, d3, d4, d5, df⟩ := cells6 TB2.out
  cases hr : rightB a with
  | false =>
    have HBAD := Lib.hid (show (rightB a && rightB b) = false by rw [hr]; rfl)
    go_wp2_with fail
    go_ret2
    exact eqPost_bad HBAD.out BW2.out
  | true =>
    have HR := Lib.hid hr
    clear hr
    go_wp2_with fail
    refine (isRight_any b _ bi di bo dt w2 HB2.out (HE.out.below BW2.out)).mono ?_
    rintro e w3 ⟨rfl, hb⟩
    have BW3 := Lib.hid (BW2.out.trans (hb.mono BW2.out.size))
    have TA3 := Lib.hid ((hb.block _ (lt_of_block TA2.out)).trans TA2.out)
    have TB3 := Lib.hid ((hb.block _ (lt_of_block TB2.out)).trans TB2.out)
    have HA3 := Lib.hid (HA2.out.below hb)
    have HB3 := Lib.hid (HB2.out.below hb)
    clear hb BW2 TA2 TB2 HA2 HB2 c0 c1 c2 c3 c4 c5 cf d0 d1 d2 d3 d4 d5 df
    obtain ⟨c0, c1, c2, c3, c4, c5, cf⟩ := cells6 TA3.out
    obtain ⟨d0, d1, d2, d3, d4, d5, df⟩ := cells6 TB3.out
    cases hs : rightB b with
    | false =>
      have HBAD := Lib.hid (show (rightB a && rightB b) = false by rw [HR.out, hs]; rfl)
      go_wp2_with fail
      go_ret2
      exact eqPost_bad HBAD.out BW3.out
    | true =>
      have HS := Lib.hid hs
      clear hs
      by_cases hn : a.name = b.name
      rotate_left
      · have HNE := Lib.hid (show a ≠ b from fun e => hn (by rw [e]))
        have xn := ne_beq hn
        clear hn
        go_wp2_with fail
        go_ret2
        exact eqPost_ne HR.out HS.out HNE.out BW3.out
      have En := Lib.hid hn
      have xn := str_beq hn
      clear hn
      by_cases hk : a.kind = b.kind
      rotate_left
      · have HNE := Lib.hid (show a ≠ b from fun e => hk (by rw [e]))
        have xk : ¬ a.kind = b.kind := hk
        clear hk
        go_wp2_with fail
        go_ret2
        exact eqPost_ne HR.out HS.out HNE.out BW3.out
      have Ek := Lib.hid hk
      have xk : a.kind = b.kind := hk
      clear hk
      by_cases hz : a.num = b.num
      rotate_left
      · have HNE := Lib.hid (show a ≠ b from fun e => hz (by rw [e]))
        have xz : ¬ a.num = b.num := hz
        clear hz
        go_wp2_with fail
        go_ret2
        exact eqPost_ne HR.out HS.out HNE.out BW3.out
      have Ez := Lib.hid hz
      have xz : a.num = b.num := hz
      clear hz
      by_cases ht : a.text = b.text
      rotate_left
      · have HNE := Lib.hid (show a ≠ b from fun e => ht (by rw [e]))
        have xt := ne_beq ht
        clear ht
        go_wp2_with fail
        go_ret2
        exact eqPost_ne HR.out HS.out HNE.out BW3.out
      have Et := Lib.hid ht
      have xt := str_beq ht
      clear ht
      have hil : a.ints.length ≤ 9223372036854775807 := HA3.out.wf.ilen
      have htl : a.texts.length ≤ 9223372036854775807 := HA3.out.wf.tlen
      have HIL := Lib.hid hil
      have HTL := Lib.hid htl
      clear hil htl
      go_wp2_with fail
      refine (sliceEqI_any ai bi ci di a.ints b.ints HIL.out w3 HA3.out.ints HB3.out.ints).mono ?_
      rintro e w4 ⟨(⟨rfl, he⟩ | ⟨rfl, he⟩), hb⟩
      rotate_left
      · have HNE := Lib.hid (show a ≠ b from fun e => he (by rw [e]))
        have BW4 := Lib.hid (BW3.out.trans (hb.mono BW3.out.size))
        clear hb he
        go_wp2_with fail
        go_ret2
        exact eqPost_ne HR.out HS.out HNE.out BW4.out
      have EI := Lib.hid he
      have BW4 := Lib.hid (BW3.out.trans (hb.mono BW3.out.size))
      have TA4 := Lib.hid ((hb.block _ (lt_of_block TA3.out)).trans TA3.out)
      have TB4 := Lib.hid ((hb.block _ (lt_of_block TB3.out)).trans TB3.out)
      have HA4 := Lib.hid (HA3.out.below hb)
      have HB4 := Lib.hid (HB3.out.below hb)
      clear hb he BW3 TA3 TB3 HA3 HB3 c0 c1 c2 c3 c4 c5 cf d0 d1 d2 d3 d4 d5 df
      obtain ⟨c0, c1, c2, c3, c4, c5, cf⟩ := cells6 TA4.out
      obtain ⟨d0, d1, d2, d3, d4, d5, df⟩ := cells6 TB4.out
      go_wp2_with fail
      refine (sliceEqS_any ao bo ct dt a.texts b.texts HTL.out w4 HA4.out.texts HB4.out.texts).mono ?_
      rintro e w5 ⟨(⟨rfl, he⟩ | ⟨rfl, he⟩), hb⟩
      rotate_left
      · have HNE := Lib.hid (show a ≠ b from fun e => he (by rw [e]))
        have BW5 := Lib.hid (BW4.out.trans (hb.mono BW4.out.size))
        clear hb he
        go_wp2_with fail
        go_ret2
        exact eqPost_ne HR.out HS.out HNE.out BW5.out
      have ES := Lib.hid he
      have BW5 := Lib.hid (BW4.out.trans (hb.mono BW4.out.size))
      clear hb he
      go_wp2_with fail
      go_ret2
      refine eqPost_eq HR.out HS.out ?_ BW5.out
      have e1 := En.out
      have e2 := Ek.out
      have e3 := Ez.out
      have e4 := Et.out
      have e5 := EI.out
      have e6 := ES.out
      obtain ⟨n1, k1, z1, t1, i1, s1⟩ := a
      obtain ⟨n2, k2, z2, t2, i2, s2⟩ := b
      dsimp only at e1 e2 e3 e4 e5 e6
      rw [e1, e2, e3, e4, e5, e6]
end Go.Proofs.YtiofnjnaleglgaaGreatDoor
