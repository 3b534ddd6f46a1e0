/-
  The reference's reading of a number type as a plain function on bytes, and that the program's reading says the same of a string that begins with an i.
-/
import Derived.Test.YtjkhjflemcljdaaGreatDoorV
namespace Go.Proofs.YtjkhjflemcljdaaGreatDoor
open Go.RowKit

abbrev idx : List UInt8 := [105, 110, 100, 101, 120]
/-- The reference's 'number'. -/
def numberR (l : List UInt8) : Nat × Bool × Bool :=
  if l = idx then (64, true, true)
  else if l.head? = some 105 then ((numR l.tail 64).1, false, (numR l.tail 64).2 && decide (1 ≤ (numR l.tail 64).1))
  else (0, false, false)

theorem kindSpec_i (t : List UInt8) : kindSpec (105 :: t) = (kindNum (105 :: t.takeWhile bLetter), kindOk (105 :: t.takeWhile bLetter), t.dropWhile bLetter) := by
  have h : bLetter 105 = true := by decide
  unfold kindSpec
  simp only [List.takeWhile_cons, h, if_true, List.dropWhile_cons, reduceCtorEq, if_false]

theorem numR_false {t : List UInt8} {m : Nat} (h : ¬ t.all bDigit = true) : (numR t m).2 = false := by
  cases hz : (numR t m).2
  · rfl
  · exact absurd (numR_yes hz).1 h
theorem not_digits {t : List UInt8} (h : ¬ t.takeWhile bLetter = []) : ¬ t.all bDigit = true := by
  cases t with
  | nil => exact absurd rfl h
  | cons c t =>
    cases hc : bLetter c
    · simp [hc] at h
    · intro ha
      rw [List.all_cons, Bool.and_eq_true] at ha
      have h1 := (letter_iff c).1 hc
      have h2 := (digit_iff c).1 ha.1
      omega
theorem desc_none {l : List UInt8} (h : (kindSpec l).2.1 = false) : descSpec l = descZero := by
  unfold descSpec
  rw [if_pos h, ite_self]

theorem desc_i (t : List UInt8) : descSpec (105 :: t) =
    if (numberR (105 :: t)).2.2 = true then ⟨if (numberR (105 :: t)).2.1 = true then 1 else 0, ((numberR (105 :: t)).1 : Nat), 0, 0, 0, 0, []⟩ else descZero := by
  by_cases hw : t.takeWhile bLetter = []
  · have hk : kindSpec (105 :: t) = (0, true, t) := by rw [kindSpec_i, hw, tw_nil hw]; rfl
    have hi : ¬ (105 :: t = idx) := by
      intro h
      injection h with _ h
      subst h
      exact absurd hw (by decide)
    have hn : numberR (105 :: t) = ((numR t 64).1, false, (numR t 64).2 && decide (1 ≤ (numR t 64).1)) := by
      rw [numberR, if_neg hi, if_pos (by rfl)]
      rfl
    rw [hn, descSpec, hk]
    simp only [Bool.true_eq_false, if_false, show ¬ (0 : Int) = 1 by decide, show ¬ ((0 : Int) = 2 ∨ (0 : Int) = 3) by decide, show ¬ (0 : Int) = 4 by decide]
    by_cases ha : t.all bDigit = true
    · obtain ⟨h1, h2⟩ := tw_all ha
      have hs := numSpec_numR ha 1 64 (by decide)
      rw [h1, h2]
      have hs' : numSpec t 1 64 = if (numR t 64).2 = true ∧ 1 ≤ (numR t 64).1 then (((numR t 64).1 : Int), true) else (0, false) := hs
      rw [hs']
      by_cases hc : (numR t 64).2 = true ∧ 1 ≤ (numR t 64).1
      · have := (numR_yes hc.1).2.2.1
        rw [if_neg (by simp only [List.length_cons]; omega)]
        simp only [hc.1, hc.2, and_self, if_true, Bool.true_and, decide_true, Bool.false_eq_true, if_false]
      · rw [if_neg hc]
        simp only [Bool.false_eq_true, false_and, if_false, ite_self]
        rw [if_neg]
        rw [Bool.and_eq_true, decide_eq_true_iff]
        exact hc
    · have hd : ¬ t.dropWhile bDigit = [] := fun h => ha (dw_nil_all h)
      rw [numR_false ha]
      simp only [hd, and_false, if_false, ite_self, Bool.false_and, Bool.false_eq_true]
  · by_cases hx : t = [110, 100, 101, 120]
    · subst hx
      kernel_rfl
    · have hi : ¬ (105 :: t = idx) := by
        intro h
        injection h with _ h
        exact hx h
      have hn : (numberR (105 :: t)).2.2 = false := by
        rw [numberR, if_neg hi, if_pos (by rfl)]
        simp only [List.tail_cons, numR_false (not_digits hw), Bool.false_and]
      rw [if_neg (by rw [hn]; decide)]
      by_cases hj : t.takeWhile bLetter = [110, 100, 101, 120]
      · have hk : kindSpec (105 :: t) = (1, true, t.dropWhile bLetter) := by rw [kindSpec_i, hj]; rfl
        have hq : ¬ t.dropWhile bLetter = [] := fun h => hx (by rw [← tw_dw (p := bLetter) t, hj, h]; rfl)
        rw [descSpec, hk]
        simp only [Bool.true_eq_false, if_false, if_true, hq, ite_self]
      · refine desc_none ?_
        rw [kindSpec_i]
        simp only [kindOk, List.cons.injEq, hw, hj, show ¬ (105 : UInt8) = 33 by decide, show ¬ (105 : UInt8) = 97 by decide, show ¬ (105 : UInt8) = 109 by decide, true_and, false_and, decide_false, Bool.or_self]

theorem kindOk_cases {W : List UInt8} (h : kindOk W = true) : W = [33] ∨ W = [97, 114, 114] ∨ W = [105] ∨ W = idx ∨ W = [109, 101, 109] := by
  simpa [kindOk, or_assoc] using h
/-- The words with which a type begins. -/
theorem kind_cases {l : List UInt8} (h : (kindSpec l).2.1 = true) : (l.takeWhile bLetter = [] ∧ l.takeWhile (bIs 33) = [33] ∧ kindSpec l = (4, true, l.dropWhile (bIs 33))) ∨
    (∃ W, l.takeWhile bLetter = W ∧ (W = [97, 114, 114] ∨ W = [105] ∨ W = idx ∨ W = [109, 101, 109]) ∧ kindSpec l = (kindNum W, true, l.dropWhile bLetter)) := by
  by_cases hl : l.takeWhile bLetter = []
  · have hd := tw_nil hl
    have he : kindSpec l = (kindNum (l.takeWhile (bIs 33)), kindOk (l.takeWhile (bIs 33)), l.dropWhile (bIs 33)) := by rw [kindSpec, if_pos hl, hd]
    rw [he] at h
    have ha := tw_is_all (p := bIs 33) l
    rcases kindOk_cases h with h1 | h1 | h1 | h1 | h1 <;> rw [h1] at ha
    · refine .inl ⟨hl, h1, ?_⟩
      rw [he, h1]
      rfl
    all_goals exact absurd ha (by decide)
  · have he : kindSpec l = (kindNum (l.takeWhile bLetter), kindOk (l.takeWhile bLetter), l.dropWhile bLetter) := by rw [kindSpec, if_neg hl]
    rw [he] at h
    have ha := tw_is_all (p := bLetter) l
    refine .inr ⟨_, rfl, ?_, ?_⟩
    · rcases kindOk_cases h with h1 | h1
      · rw [h1] at ha
        exact absurd ha (by decide)
      · exact h1
    · rw [he]
      exact congrArg (fun b => (kindNum (l.takeWhile bLetter), b, l.dropWhile bLetter)) h
theorem tw_cons {p : UInt8 → Bool} {c : UInt8} {l W : List UInt8} (h : l.takeWhile p = c :: W) : ∃ t, l = c :: t := by
  cases l with
  | nil => cases h
  | cons a l =>
    cases ha : p a
    · simp [ha] at h
    · simp only [List.takeWhile_cons, ha, if_true] at h
      injection h with h _
      exact ⟨l, by rw [h]⟩

/-- Whether a string is a number type: the program's word is the reference's. -/
theorem numB_numberR (l : List UInt8) : numB l = (numberR l).2.2 := by
  obtain ⟨k, b, r, e0, e1, e2, el, h⟩ : ∃ k b r e0 e1 e2 el, descSpec l = ⟨k, b, r, e0, e1, e2, el⟩ := ⟨_, _, _, _, _, _, _, rfl⟩
  rw [desc_num h]
  cases hl : l with
  | nil =>
    rw [hl] at h
    have h0 : descSpec [] = descZero := by kernel_rfl
    rw [h0] at h
    cases h
    rfl
  | cons c t =>
    rw [hl] at h
    by_cases hc : c = 105
    · subst hc
      rw [desc_i] at h
      by_cases hn : (numberR (105 :: t)).2.2 = true
      · rw [if_pos hn] at h
        injection h with _ h
        rw [hn, ← h, decide_eq_true_iff]
        unfold numberR at hn ⊢
        split
        · decide
        · rename_i hi
          rw [if_neg hi, if_pos (by rfl)] at hn
          rw [if_pos (by rfl)]
          simp only [Bool.and_eq_true, decide_eq_true_iff] at hn
          simp only
          omega
      · rw [if_neg hn] at h
        cases h
        simp only [Bool.not_eq_true] at hn
        rw [hn]
        rfl
    · have hn : numberR (c :: t) = (0, false, false) := by
        rw [numberR, if_neg (fun e => hc (by injection e)), if_neg (fun e => hc (by simpa using e))]
      rw [hn, decide_eq_false_iff_not]
      intro hb
      have hB : numB (c :: t) = true := by rw [desc_num h]; exact decide_eq_true hb
      unfold numB at hB
      simp only [Bool.and_eq_true, Bool.or_eq_true, decide_eq_true_iff] at hB
      obtain ⟨⟨_, hk⟩, hk2⟩ := hB
      have h01 : (kindSpec (c :: t)).1 = 1 ∨ (kindSpec (c :: t)).1 = 0 := by
        rcases hk2 with h | h
        · exact .inl h.1
        · exact .inr h.1.1
      rcases kind_cases hk with ⟨_, _, he⟩ | ⟨W, hW, hc4, he⟩
      · rw [he] at h01
        rcases h01 with h | h <;> cases h
      · rw [he] at h01
        rcases hc4 with rfl | rfl | rfl | rfl
        · exact absurd (show kindNum [97, 114, 114] = 1 ∨ kindNum [97, 114, 114] = 0 from h01) (by decide)
        · obtain ⟨_, hx⟩ := tw_cons hW
          injection hx with hx _
          exact hc hx
        · obtain ⟨_, hx⟩ := tw_cons hW
          injection hx with hx _
          exact hc hx
        · exact absurd (show kindNum [109, 101, 109] = 1 ∨ kindNum [109, 101, 109] = 0 from h01) (by decide)
end Go.Proofs.YtjkhjflemcljdaaGreatDoor
