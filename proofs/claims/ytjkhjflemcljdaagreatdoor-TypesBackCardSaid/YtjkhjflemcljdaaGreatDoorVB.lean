/-
  The reference's reading of names and foreign types as plain functions on bytes, and that the program's reading says the same of a string that begins with an exclamation mark.
-/
import Derived.Test.YtjkhjflemcljdaaGreatDoorVA
namespace Go.Proofs.YtjkhjflemcljdaaGreatDoor
open Go.RowKit

def headLetter (l : List UInt8) : Bool := match l with | [] => false | c :: _ => bLetter c
/-- The reference's 'IsName'. -/
def isNameR (l : List UInt8) : Bool := decide (l.length ≤ 60) && headLetter l && l.tail.all bPart
def notDot (b : UInt8) : Bool := !(bIs 46 b)
/-- The reference's 'IsPair'. -/
def isPairR (l : List UInt8) (most : Nat) : Bool := decide (l.length ≤ most) && !(l.dropWhile notDot).isEmpty && isNameR (l.takeWhile notDot) && isNameR (l.dropWhile notDot).tail

theorem letter_part {c : UInt8} (h : bLetter c = true) : bPart c = true := (part_iff c).2 (.inl ((letter_iff c).1 h))
theorem isNameR_iff (l : List UInt8) : isNameR l = true ↔ l.length ≤ 60 ∧ headLetter l = true ∧ l.all bPart = true := by
  unfold isNameR
  rw [Bool.and_eq_true, Bool.and_eq_true, decide_eq_true_iff]
  cases l with
  | nil => simp [headLetter]
  | cons c l =>
    simp only [headLetter, List.tail_cons, List.all_cons, Bool.and_eq_true]
    constructor
    · rintro ⟨⟨h1, h2⟩, h3⟩; exact ⟨h1, h2, letter_part h2, h3⟩
    · rintro ⟨h1, h2, _, h3⟩; exact ⟨⟨h1, h2⟩, h3⟩
theorem tw_append {p : UInt8 → Bool} : ∀ {l m : List UInt8}, l.all p = true → (l ++ m).takeWhile p = l ++ m.takeWhile p ∧ (l ++ m).dropWhile p = m.dropWhile p
  | [], _, _ => ⟨rfl, rfl⟩
  | a :: l, m, h => by
    rw [List.all_cons, Bool.and_eq_true] at h
    obtain ⟨h1, h2⟩ := tw_append (m := m) h.2
    simp [h.1, h1, h2]
theorem all_imp {p q : UInt8 → Bool} {l : List UInt8} (h : l.all p = true) (hpq : ∀ c, p c = true → q c = true) : l.all q = true := by
  rw [List.all_eq_true] at h ⊢
  exact fun c hc => hpq c (h c hc)
theorem part_notDot (c : UInt8) (h : bPart c = true) : notDot c = true := by
  unfold notDot
  cases hd : bIs 46 c
  · rfl
  · obtain rfl := (is_iff (x := 46) (by decide) c).1 hd
    exact absurd h (by decide)

theorem nameSpec_eq (l : List UInt8) : nameSpec l = (headLetter (l.takeWhile bPart), l.dropWhile bPart) := rfl
theorem foreignSpec_eq (t : List UInt8) : foreignSpec t = if headLetter (t.takeWhile bPart) = false then (false, t.dropWhile bPart) else
    if (t.dropWhile bPart).takeWhile (bIs 46) = [46] then (headLetter (((t.dropWhile bPart).dropWhile (bIs 46)).takeWhile bPart), ((t.dropWhile bPart).dropWhile (bIs 46)).dropWhile bPart)
    else (false, (t.dropWhile bPart).dropWhile (bIs 46)) := rfl
theorem headLetter_app {l m : List UInt8} (h : headLetter l = true) : headLetter (l ++ m) = true := by
  cases l with
  | nil => cases h
  | cons c l => exact h

theorem foreign_iff (t : List UInt8) (h60 : t.length ≤ 59) : ((foreignSpec t).1 = true ∧ (foreignSpec t).2 = []) ↔ isPairR t 59 = true := by
  unfold isPairR
  rw [decide_eq_true h60, Bool.true_and, Bool.and_eq_true, Bool.and_eq_true, isNameR_iff, isNameR_iff]
  constructor
  · intro h
    rw [foreignSpec_eq] at h
    by_cases hA : headLetter (t.takeWhile bPart) = false
    · rw [if_pos hA] at h
      exact absurd h.1 Bool.false_ne_true
    rw [if_neg hA] at h
    simp only [Bool.not_eq_false] at hA
    by_cases hrun : (t.dropWhile bPart).takeWhile (bIs 46) = [46]
    · rw [if_pos hrun] at h
      obtain ⟨r, hr, _, hdr⟩ := (run_iff (x := 46) (by decide) _).1 hrun
      rw [hdr] at h
      have hA2 := tw_is_all (p := bPart) t
      have hcat := tw_dw (p := bPart) t
      rw [hr] at hcat
      obtain ⟨h1, h2⟩ := tw_append (p := notDot) (m := 46 :: r) (all_imp hA2 part_notDot)
      rw [hcat] at h1 h2
      have h46 : notDot 46 = false := by decide
      simp only [List.takeWhile_cons, h46, List.dropWhile_cons, List.append_nil, Bool.false_eq_true, if_false] at h1 h2
      have hr2 := dw_nil_all h.2
      have hlen := congrArg List.length hcat
      simp only [List.length_append, List.length_cons] at hlen
      rw [h1, h2, List.tail_cons]
      refine ⟨⟨rfl, ⟨by omega, hA, hA2⟩⟩, ⟨by omega, ?_, hr2⟩⟩
      rw [(tw_all hr2).1] at h
      exact h.1
    · rw [if_neg hrun] at h
      exact absurd h.1 Bool.false_ne_true
  · rintro ⟨⟨hne, _, hA, hA2⟩, _, hr, hr2⟩
    obtain ⟨c, r, hd⟩ : ∃ c r, t.dropWhile notDot = c :: r := by
      cases hd : t.dropWhile notDot with
      | nil => rw [hd] at hne; cases hne
      | cons c r => exact ⟨c, r, rfl⟩
    rw [hd, List.tail_cons] at hr hr2
    have hc : c = 46 := by
      have := dw_head hd
      unfold notDot at this
      simp only [Bool.not_eq_false'] at this
      exact (is_iff (x := 46) (by decide) c).1 this
    subst hc
    have hcat := tw_dw (p := notDot) t
    rw [hd] at hcat
    obtain ⟨h1, h2⟩ := tw_append (p := bPart) (m := 46 :: r) hA2
    rw [hcat] at h1 h2
    have h46 : bPart 46 = false := by decide
    simp only [List.takeWhile_cons, h46, List.dropWhile_cons, List.append_nil, Bool.false_eq_true, if_false] at h1 h2
    have hrun : (46 :: r).takeWhile (bIs 46) = [46] ∧ (46 :: r).dropWhile (bIs 46) = r := by
      have hh : r.head? ≠ some 46 := by
        cases r with
        | nil => cases hr
        | cons c r =>
          intro h
          rw [List.head?_cons] at h
          cases h
          exact absurd (show bLetter 46 = true from hr) (by decide)
      have hx : (46 :: r).takeWhile (bIs 46) = [46] := (run_iff (x := 46) (by decide) _).2 ⟨r, rfl, hh, by
        cases r with
        | nil => cases hr
        | cons c r =>
          have hc : bIs 46 c = false := by
            cases hb : bIs 46 c
            · rfl
            · exact absurd (congrArg some ((is_iff (x := 46) (by decide) c).1 hb)) (by simpa using hh)
          simp [show bIs 46 46 = true by decide, hc]⟩
      obtain ⟨r', hr', _, hdr⟩ := (run_iff (x := 46) (by decide) _).1 hx
      injection hr' with _ hr'
      exact ⟨hx, by rw [hdr, ← hr']⟩
    obtain ⟨h3, h4⟩ := tw_all hr2
    rw [foreignSpec_eq]
    simp only [h1, h2, hA, hrun.1, hrun.2, h3, h4, hr, Bool.true_eq_false, if_false, if_true, and_self]

theorem desc_f (t : List UInt8) : descSpec (33 :: t) = if isPairR t 59 = true then ⟨4, 0, 0, 0, 0, 0, []⟩ else descZero := by
  have hl : (33 :: t).takeWhile bLetter = [] := by simp [show bLetter 33 = false by decide]
  cases hk : (kindSpec (33 :: t)).2.1
  · rw [desc_none hk, if_neg]
    intro hp
    have ht : t.head? ≠ some 33 := by
      unfold isPairR at hp
      simp only [Bool.and_eq_true, isNameR_iff] at hp
      have hA := hp.1.2.2.1
      cases t with
      | nil => cases hA
      | cons c t =>
        intro h
        rw [List.head?_cons] at h
        cases h
        simp only [List.takeWhile_cons, show notDot 33 = true by decide, if_true] at hA
        exact absurd (show bLetter 33 = true from hA) (by decide)
    have hd : (33 :: t).dropWhile (bIs 33) = t := by
      cases t with
      | nil => decide
      | cons c r =>
        have hc : bIs 33 c = false := by
          cases hb : bIs 33 c
          · rfl
          · exact absurd (congrArg some ((is_iff (x := 33) (by decide) c).1 hb)) (by simpa using ht)
        simp [show bIs 33 33 = true by decide, hc]
    have hrun := (run_iff (x := 33) (by decide) (33 :: t)).2 ⟨t, rfl, ht, hd⟩
    rw [kindSpec, if_pos hl, tw_nil hl, hrun] at hk
    cases hk
  · rcases kind_cases hk with ⟨_, hrun, he⟩ | ⟨W, hW, h4, _⟩
    · obtain ⟨r, hr, _, hdr⟩ := (run_iff (x := 33) (by decide) _).1 hrun
      injection hr with _ hr
      subst hr
      rw [hdr] at he
      rw [descSpec, he]
      simp only [Bool.true_eq_false, if_false, show ¬ (4 : Int) = 1 by decide, show ¬ ((4 : Int) = 2 ∨ (4 : Int) = 3) by decide, if_true]
      by_cases h60 : 60 < (33 :: t).length
      · rw [if_pos h60, if_neg]
        intro h
        unfold isPairR at h
        simp only [Bool.and_eq_true, decide_eq_true_iff] at h
        simp only [List.length_cons] at h60
        omega
      · rw [if_neg h60]
        have hi := foreign_iff t (by simp only [List.length_cons] at h60; omega)
        by_cases hp : isPairR t 59 = true
        · rw [if_pos hp, if_pos (hi.2 hp)]
        · rw [if_neg hp, if_neg (fun h => hp (hi.1 h))]
    · rw [hl] at hW
      subst hW
      exact absurd h4 (by decide)
end Go.Proofs.YtjkhjflemcljdaaGreatDoor
