/-
  Texts of mine in one file: V, VA, VB, AtE.
-/
import Derived.Test.YtiofnjnaleglgaaGreatDoorG06
/-
  The reference's reading of numbers and number types as plain functions on bytes, and that it says what the program's reading says.
-/
namespace Go.Proofs.YtiofnjnaleglgaaGreatDoor
open Go.RowKit

theorem digit_iff (c : UInt8) : bDigit c = true ↔ 48 ≤ c.toNat ∧ c.toNat ≤ 57 := by
  unfold bDigit chDigit
  rw [Bool.and_eq_true, decide_eq_true_iff, decide_eq_true_iff]
  omega
theorem letter_iff (c : UInt8) : bLetter c = true ↔ 97 ≤ c.toNat ∧ c.toNat ≤ 122 := by
  unfold bLetter chLetter
  rw [Bool.and_eq_true, decide_eq_true_iff, decide_eq_true_iff]
  omega
theorem part_iff (c : UInt8) : bPart c = true ↔ (97 ≤ c.toNat ∧ c.toNat ≤ 122) ∨ (48 ≤ c.toNat ∧ c.toNat ≤ 57) ∨ c.toNat = 95 := by
  unfold bPart chPart
  rw [Bool.or_eq_true, Bool.or_eq_true, decide_eq_true_iff]
  have h1 := letter_iff c
  have h2 := digit_iff c
  unfold bLetter at h1
  unfold bDigit at h2
  rw [h1, h2]
  omega
theorem is_iff {x : UInt8} {y : Int} (hx : (x.toNat : Int) = y) (c : UInt8) : bIs y c = true ↔ c = x := by
  unfold bIs
  rw [beq_iff_eq, ← hx]
  constructor
  · intro h; exact UInt8.toNat_inj.1 (by omega)
  · rintro rfl; rfl

section
variable {p : UInt8 → Bool}
theorem tw_snoc {c : UInt8} (h : p c = false) : ∀ l : List UInt8, (l ++ [c]).takeWhile p = l.takeWhile p ∧ (l ++ [c]).dropWhile p = l.dropWhile p ++ [c]
  | [] => by simp [h]
  | a :: l => by
    obtain ⟨h1, h2⟩ := tw_snoc h l
    cases ha : p a
    · simp [ha]
    · simp [ha, h1, h2]
theorem tw_all : ∀ {l : List UInt8}, l.all p = true → l.takeWhile p = l ∧ l.dropWhile p = []
  | [], _ => ⟨rfl, rfl⟩
  | a :: l, h => by
    rw [List.all_cons, Bool.and_eq_true] at h
    obtain ⟨h1, h2⟩ := tw_all h.2
    simp [h.1, h1, h2]
theorem tw_is_all : ∀ (l : List UInt8), (l.takeWhile p).all p = true
  | [] => rfl
  | a :: l => by
    cases ha : p a
    · simp [ha]
    · simp only [List.takeWhile_cons, ha, if_true, List.all_cons, Bool.true_and]
      exact tw_is_all l
theorem dw_head {c : UInt8} {r : List UInt8} : ∀ {l : List UInt8}, l.dropWhile p = c :: r → p c = false
  | [], h => by cases h
  | a :: l, h => by
    cases ha : p a
    · simp only [List.dropWhile_cons, ha] at h
      cases h
      exact ha
    · simp only [List.dropWhile_cons, ha, if_true] at h
      exact dw_head h
theorem tw_nil : ∀ {l : List UInt8}, l.takeWhile p = [] → l.dropWhile p = l
  | [], _ => rfl
  | a :: l, h => by
    cases ha : p a
    · simp [ha]
    · simp [ha] at h
theorem dw_nil_all : ∀ {l : List UInt8}, l.dropWhile p = [] → l.all p = true
  | [], _ => rfl
  | a :: l, h => by
    cases ha : p a
    · simp [ha] at h
    · simp only [List.dropWhile_cons, ha, if_true] at h
      simp only [List.all_cons, ha, Bool.true_and]
      exact dw_nil_all h
theorem tw_dw (l : List UInt8) : l.takeWhile p ++ l.dropWhile p = l := List.takeWhile_append_dropWhile
end

/-- A run of just one x: what stands there, and what is left. -/
theorem run_iff {x : UInt8} {y : Int} (hx : (x.toNat : Int) = y) (l : List UInt8) : l.takeWhile (bIs y) = [x] ↔ ∃ r, l = x :: r ∧ r.head? ≠ some x ∧ l.dropWhile (bIs y) = r := by
  have hb := is_iff hx
  cases l with
  | nil => simp
  | cons a l =>
    cases ha : bIs y a
    · simp only [List.takeWhile_cons, ha]
      constructor
      · intro h; cases h
      · rintro ⟨r, h, _⟩
        cases h
        rw [(hb x).2 rfl] at ha
        cases ha
    · obtain rfl := (hb a).1 ha
      simp only [List.takeWhile_cons, ha, if_true, List.dropWhile_cons, List.cons.injEq, true_and]
      cases l with
      | nil => simp
      | cons c l =>
        cases hc : bIs y c
        · simp only [List.takeWhile_cons, hc, List.dropWhile_cons]
          refine ⟨fun _ => ⟨c :: l, rfl, ?_, rfl⟩, fun _ => rfl⟩
          intro h
          simp only [List.head?_cons, Option.some.injEq] at h
          rw [(hb c).2 h] at hc
          cases hc
        · obtain rfl := (hb c).1 hc
          simp only [List.takeWhile_cons, hc, if_true]
          constructor
          · intro h; cases h
          · rintro ⟨r, rfl, h, _⟩
            exact absurd rfl h

def dvalFrom (n : Nat) (l : List UInt8) : Nat := l.foldl (fun n c => 10 * n + (c.toNat - 48)) n
theorem dval_cons (n : Nat) (c : UInt8) (l : List UInt8) : dvalFrom n (c :: l) = dvalFrom (10 * n + (c.toNat - 48)) l := by
  unfold dvalFrom
  rw [List.foldl_cons]
theorem dval_big : ∀ (l : List UInt8) (n : Nat), n * 10 ^ l.length ≤ dvalFrom n l
  | [], n => by simp [dvalFrom]
  | c :: l, n => by
    rw [dval_cons, List.length_cons, Nat.pow_succ]
    have h := dval_big l (10 * n + (c.toNat - 48))
    generalize 10 ^ l.length = P at h ⊢
    rw [Nat.mul_comm P, ← Nat.mul_assoc, Nat.mul_comm n]
    exact Nat.le_trans (Nat.mul_le_mul_right _ (Nat.le_add_right _ _)) h
theorem dval_le (l : List UInt8) (n : Nat) : n ≤ dvalFrom n l := by
  have h := dval_big l n
  have h2 : n * 1 ≤ n * 10 ^ l.length := Nat.mul_le_mul_left _ (Nat.one_le_pow _ _ (by decide))
  omega
theorem parse_ok : ∀ (l : List UInt8) (n : Nat), l.all bDigit = true → dvalFrom n l < 1000000000 → Lib.parseUint10 n l = .ok (dvalFrom n l)
  | [], n, _, _ => rfl
  | c :: l, n, h, hv => by
    rw [List.all_cons, Bool.and_eq_true] at h
    have hd := (digit_iff c).1 h.1
    rw [dval_cons] at hv
    have hle := dval_le l (10 * n + (c.toNat - 48))
    have ih := parse_ok l _ h.2 hv
    rw [Lib.parseUint10, if_pos hd, if_neg (by omega), if_neg (by omega), show n * 10 + (c.toNat - 48) = 10 * n + (c.toNat - 48) by omega, ih, dval_cons]
theorem parse_val : ∀ (l : List UInt8) (n v : Nat), l.all bDigit = true → Lib.parseUint10 n l = .ok v → v = dvalFrom n l
  | [], n, v, _, h => by
    simp only [Lib.parseUint10] at h
    injection h with h
    exact h.symm
  | c :: l, n, v, h, hv => by
    rw [List.all_cons, Bool.and_eq_true] at h
    rw [Lib.parseUint10, if_pos ((digit_iff c).1 h.1)] at hv
    split at hv
    · cases hv
    · split at hv
      · cases hv
      · rw [dval_cons, show 10 * n + (c.toNat - 48) = n * 10 + (c.toNat - 48) by omega]
        exact parse_val l _ v h.2 hv
theorem atoi_digits {c : UInt8} {r : List UInt8} (hd : 48 ≤ c.toNat ∧ c.toNat ≤ 57) : (∀ u, Lib.parseUint10 0 (c :: r) = .ok u → u < 9223372036854775808 → Lib.atoiAll (c :: r) = .ok (u : Int)) ∧
    (∀ v, Lib.atoiAll (c :: r) = .ok v → ∃ u : Nat, Lib.parseUint10 0 (c :: r) = .ok u ∧ v = u) := by
  have h43 : ¬ c.toNat = 43 := by omega
  have h45 : ¬ c.toNat = 45 := by omega
  simp only [Lib.atoiAll, Lib.parseMag, h43, h45, or_self, if_false, not_false_eq_true, true_and, false_and, reduceCtorEq]
  generalize Lib.parseUint10 0 (c :: r) = z
  cases z with
  | ok u =>
    refine ⟨fun u' h hlt => ?_, fun v h => ?_⟩
    · injection h with h
      subst h
      simp only
      rw [if_neg (by omega)]
    · simp only at h
      split at h
      · cases h
      · injection h with h
        exact ⟨u, rfl, h.symm⟩
  | _ => exact ⟨(fun _ h => by cases h), (fun _ h => by cases h)⟩
theorem atoi_ok {l : List UInt8} (h : l.all bDigit = true) (hne : l ≠ []) (hv : dvalFrom 0 l < 1000000000) : Lib.atoiAll l = .ok (dvalFrom 0 l : Nat) := by
  cases l with
  | nil => exact absurd rfl hne
  | cons c r =>
    have hp := parse_ok (c :: r) 0 h hv
    rw [List.all_cons, Bool.and_eq_true] at h
    exact (atoi_digits ((digit_iff c).1 h.1)).1 _ hp (by omega)
theorem atoi_val {l : List UInt8} {v : Int} (h : l.all bDigit = true) (hv : Lib.atoiAll l = .ok v) : v = (dvalFrom 0 l : Nat) := by
  cases l with
  | nil => cases hv
  | cons c r =>
    have hh := h
    rw [List.all_cons, Bool.and_eq_true] at hh
    obtain ⟨u, hu, rfl⟩ := (atoi_digits ((digit_iff c).1 hh.1)).2 v hv
    rw [parse_val (c :: r) 0 u h hu]

/-- The reference's 'Num'. -/
def numR (l : List UInt8) (most : Nat) : Nat × Bool :=
  if l = [] ∨ 9 < l.length ∨ (1 < l.length ∧ l.head? = some 48) then (0, false)
  else if l.all bDigit then (dvalFrom 0 l, decide (dvalFrom 0 l ≤ most)) else (0, false)
theorem numR_yes {l : List UInt8} {m : Nat} (h : (numR l m).2 = true) : l.all bDigit = true ∧ l ≠ [] ∧ l.length ≤ 9 ∧ (numR l m).1 = dvalFrom 0 l ∧ dvalFrom 0 l ≤ m ∧ ¬ (1 < l.length ∧ l.head? = some 48) := by
  unfold numR at h ⊢
  split at h
  · cases h
  · rename_i hc
    split at h
    · rename_i hd
      rw [if_neg hc, if_pos hd]
      exact ⟨hd, fun e => hc (.inl e), by omega, rfl, by simpa using h, fun e => hc (.inr (.inr e))⟩
    · cases h
theorem numR_no {l : List UInt8} {m : Nat} (h : l = [] ∨ 9 < l.length ∨ (1 < l.length ∧ l.head? = some 48)) : numR l m = (0, false) := by rw [numR, if_pos h]
theorem numSpec_numR {l : List UInt8} (hl : l.all bDigit = true) (lo hi : Nat) (hhi : hi < 1000000000) :
    numSpec l lo hi = if (numR l hi).2 = true ∧ lo ≤ (numR l hi).1 then (((numR l hi).1 : Int), true) else (0, false) := by
  by_cases h0 : 1 < l.length ∧ l.head? = some 48
  · rw [numSpec, if_pos h0, numR_no (.inr (.inr h0)), if_neg (fun h => by cases h.1)]
  rw [numSpec, if_neg h0]
  by_cases hv : dvalFrom 0 l ≤ hi
  · by_cases hne : l = []
    · subst hne; rfl
    · have hlen : l.length ≤ 9 := by
        cases l with
        | nil => exact absurd rfl hne
        | cons c r =>
          have hh := hl
          rw [List.all_cons, Bool.and_eq_true] at hh
          have hd := (digit_iff c).1 hh.1
          refine Nat.le_of_not_lt fun hlt => ?_
          have hc : c.toNat ≠ 48 := fun e => h0 ⟨by omega, by rw [List.head?_cons]; exact congrArg some (UInt8.toNat_inj.1 e)⟩
          have hb := dval_big r (10 * 0 + (c.toNat - 48))
          rw [← dval_cons] at hb
          have h9 : 10 ^ 9 ≤ 10 ^ r.length := Nat.pow_le_pow_right (by decide) (by simpa using Nat.le_of_lt_succ hlt)
          have h1 : 1 * 10 ^ r.length ≤ (10 * 0 + (c.toNat - 48)) * 10 ^ r.length := Nat.mul_le_mul_right _ (by omega)
          have h99 : (10 : Nat) ^ 9 = 1000000000 := by decide
          omega
      have hr : numR l hi = (dvalFrom 0 l, true) := by
        rw [numR, if_neg (fun h => h.elim hne (fun h => h.elim (Nat.not_lt.2 hlen) h0)), if_pos hl, decide_eq_true hv]
      rw [hr, atoi_ok hl hne (by omega)]
      simp only [true_and]
      by_cases hlo : lo ≤ dvalFrom 0 l
      · rw [if_pos (by omega), if_pos hlo]
      · rw [if_neg (by omega), if_neg hlo]
  · have hr : ¬ (numR l hi).2 = true := fun h => hv (numR_yes h).2.2.2.2.1
    rw [if_neg (fun h => hr h.1)]
    split
    · rename_i v hz
      have := atoi_val hl hz
      rw [if_neg (by omega)]
    · rfl
end Go.Proofs.YtiofnjnaleglgaaGreatDoor

/-
  The reference's reading of a number type as a plain function on bytes, and that the program's reading says the same of a string that begins with an i.
-/
namespace Go.Proofs.YtiofnjnaleglgaaGreatDoor
open Go.RowKit

abbrev idx : List UInt8 := [105, 110, 100, 101, 120]
/-- The reference's 'number'. -/
def numberR (l : List UInt8) : Nat × Bool × Bool :=
  if l = idx then (64, true, true)
  else if l.head? = some 105 then ((numR l.tail 64).1, false, (numR l.tail 64).2 && decide (1 ≤ (numR l.tail 64).1))
  else (0, false, false)

theorem kindSpec_i (t : List UInt8) : kindSpec (105 :: t) = (kindNum (105 :: t.takeWhile bLetter), kindOk (105 :: t.takeWhile bLetter), t.dropWhile bLetter) := by
  have h : bLetter 105 = true := by decide
  unfold kindSpec
  simp only [List.takeWhile_cons, h, if_true, List.dropWhile_cons, reduceCtorEq, if_false]

theorem numR_false {t : List UInt8} {m : Nat} (h : ¬ t.all bDigit = true) : (numR t m).2 = false := by
  cases hz : (numR t m).2
  · rfl
  · exact absurd (numR_yes hz).1 h
theorem not_digits {t : List UInt8} (h : ¬ t.takeWhile bLetter = []) : ¬ t.all bDigit = true := by
  cases t with
  | nil => exact absurd rfl h
  | cons c t =>
    cases hc : bLetter c
    · simp [hc] at h
    · intro ha
      rw [List.all_cons, Bool.and_eq_true] at ha
      have h1 := (letter_iff c).1 hc
      have h2 := (digit_iff c).1 ha.1
      omega
theorem desc_none {l : List UInt8} (h : (kindSpec l).2.1 = false) : descSpec l = descZero := by
  unfold descSpec
  rw [if_pos h, ite_self]

theorem desc_i (t : List UInt8) : descSpec (105 :: t) =
    if (numberR (105 :: t)).2.2 = true then ⟨if (numberR (105 :: t)).2.1 = true then 1 else 0, ((numberR (105 :: t)).1 : Nat), 0, 0, 0, 0, []⟩ else descZero := by
  by_cases hw : t.takeWhile bLetter = []
  · have hk : kindSpec (105 :: t) = (0, true, t) := by rw [kindSpec_i, hw, tw_nil hw]; rfl
    have hi : ¬ (105 :: t = idx) := by
      intro h
      injection h with _ h
      subst h
      exact absurd hw (by decide)
    have hn : numberR (105 :: t) = ((numR t 64).1, false, (numR t 64).2 && decide (1 ≤ (numR t 64).1)) := by
      rw [numberR, if_neg hi, if_pos (by rfl)]
      rfl
    rw [hn, descSpec, hk]
    simp only [Bool.true_eq_false, if_false, show ¬ (0 : Int) = 1 by decide, show ¬ ((0 : Int) = 2 ∨ (0 : Int) = 3) by decide, show ¬ (0 : Int) = 4 by decide]
    by_cases ha : t.all bDigit = true
    · obtain ⟨h1, h2⟩ := tw_all ha
      have hs := numSpec_numR ha 1 64 (by decide)
      rw [h1, h2]
      have hs' : numSpec t 1 64 = if (numR t 64).2 = true ∧ 1 ≤ (numR t 64).1 then (((numR t 64).1 : Int), true) else (0, false) := hs
      rw [hs']
      by_cases hc : (numR t 64).2 = true ∧ 1 ≤ (numR t 64).1
      · have := (numR_yes hc.1).2.2.1
        rw [if_neg (by simp only [List.length_cons]; omega)]
        simp only [hc.1, hc.2, and_self, if_true, Bool.true_and, decide_true, Bool.false_eq_true, if_false]
      · rw [if_neg hc]
        simp only [Bool.false_eq_true, false_and, if_false, ite_self]
        rw [if_neg]
        rw [Bool.and_eq_true, decide_eq_true_iff]
        exact hc
    · have hd : ¬ t.dropWhile bDigit = [] := fun h => ha (dw_nil_all h)
      rw [numR_false ha]
      simp only [hd, and_false, if_false, ite_self, Bool.false_and, Bool.false_eq_true]
  · by_cases hx : t = [110, 100, 101, 120]
    · subst hx
      kernel_rfl
    · have hi : ¬ (105 :: t = idx) := by
        intro h
        injection h with _ h
        exact hx h
      have hn : (numberR (105 :: t)).2.2 = false := by
        rw [numberR, if_neg hi, if_pos (by rfl)]
        simp only [List.tail_cons, numR_false (not_digits hw), Bool.false_and]
      rw [if_neg (by rw [hn]; decide)]
      by_cases hj : t.takeWhile bLetter = [110, 100, 101, 120]
      · have hk : kindSpec (105 :: t) = (1, true, t.dropWhile bLetter) := by rw [kindSpec_i, hj]; rfl
        have hq : ¬ t.dropWhile bLetter = [] := fun h => hx (by rw [← tw_dw (p := bLetter) t, hj, h]; rfl)
        rw [descSpec, hk]
        simp only [Bool.true_eq_false, if_false, if_true, hq, ite_self]
      · refine desc_none ?_
        rw [kindSpec_i]
        simp only [kindOk, List.cons.injEq, hw, hj, show ¬ (105 : UInt8) = 33 by decide, show ¬ (105 : UInt8) = 97 by decide, show ¬ (105 : UInt8) = 109 by decide, true_and, false_and, decide_false, Bool.or_self]

theorem kindOk_cases {W : List UInt8} (h : kindOk W = true) : W = [33] ∨ W = [97, 114, 114] ∨ W = [105] ∨ W = idx ∨ W = [109, 101, 109] := by
  simpa [kindOk, or_assoc] using h
/-- The words with which a type begins. -/
theorem kind_cases {l : List UInt8} (h : (kindSpec l).2.1 = true) : (l.takeWhile bLetter = [] ∧ l.takeWhile (bIs 33) = [33] ∧ kindSpec l = (4, true, l.dropWhile (bIs 33))) ∨
    (∃ W, l.takeWhile bLetter = W ∧ (W = [97, 114, 114] ∨ W = [105] ∨ W = idx ∨ W = [109, 101, 109]) ∧ kindSpec l = (kindNum W, true, l.dropWhile bLetter)) := by
  by_cases hl : l.takeWhile bLetter = []
  · have hd := tw_nil hl
    have he : kindSpec l = (kindNum (l.takeWhile (bIs 33)), kindOk (l.takeWhile (bIs 33)), l.dropWhile (bIs 33)) := by rw [kindSpec, if_pos hl, hd]
    rw [he] at h
    have ha := tw_is_all (p := bIs 33) l
    rcases kindOk_cases h with h1 | h1 | h1 | h1 | h1 <;> rw [h1] at ha
    · refine .inl ⟨hl, h1, ?_⟩
      rw [he, h1]
      rfl
    all_goals exact absurd ha (by decide)
  · have he : kindSpec l = (kindNum (l.takeWhile bLetter), kindOk (l.takeWhile bLetter), l.dropWhile bLetter) := by rw [kindSpec, if_neg hl]
    rw [he] at h
    have ha := tw_is_all (p := bLetter) l
    refine .inr ⟨_, rfl, ?_, ?_⟩
    · rcases kindOk_cases h with h1 | h1
      · rw [h1] at ha
        exact absurd ha (by decide)
      · exact h1
    · rw [he]
      exact congrArg (fun b => (kindNum (l.takeWhile bLetter), b, l.dropWhile bLetter)) h
theorem tw_cons {p : UInt8 → Bool} {c : UInt8} {l W : List UInt8} (h : l.takeWhile p = c :: W) : ∃ t, l = c :: t := by
  cases l with
  | nil => cases h
  | cons a l =>
    cases ha : p a
    · simp [ha] at h
    · simp only [List.takeWhile_cons, ha, if_true] at h
      injection h with h _
      exact ⟨l, by rw [h]⟩

/-- Whether a string is a number type: the program's word is the reference's. -/
theorem numB_numberR (l : List UInt8) : numB l = (numberR l).2.2 := by
  obtain ⟨k, b, r, e0, e1, e2, el, h⟩ : ∃ k b r e0 e1 e2 el, descSpec l = ⟨k, b, r, e0, e1, e2, el⟩ := ⟨_, _, _, _, _, _, _, rfl⟩
  rw [desc_num h]
  cases hl : l with
  | nil =>
    rw [hl] at h
    have h0 : descSpec [] = descZero := by kernel_rfl
    rw [h0] at h
    cases h
    rfl
  | cons c t =>
    rw [hl] at h
    by_cases hc : c = 105
    · subst hc
      rw [desc_i] at h
      by_cases hn : (numberR (105 :: t)).2.2 = true
      · rw [if_pos hn] at h
        injection h with _ h
        rw [hn, ← h, decide_eq_true_iff]
        unfold numberR at hn ⊢
        split
        · decide
        · rename_i hi
          rw [if_neg hi, if_pos (by rfl)] at hn
          rw [if_pos (by rfl)]
          simp only [Bool.and_eq_true, decide_eq_true_iff] at hn
          simp only
          omega
      · rw [if_neg hn] at h
        cases h
        simp only [Bool.not_eq_true] at hn
        rw [hn]
        rfl
    · have hn : numberR (c :: t) = (0, false, false) := by
        rw [numberR, if_neg (fun e => hc (by injection e)), if_neg (fun e => hc (by simpa using e))]
      rw [hn, decide_eq_false_iff_not]
      intro hb
      have hB : numB (c :: t) = true := by rw [desc_num h]; exact decide_eq_true hb
      unfold numB at hB
      simp only [Bool.and_eq_true, Bool.or_eq_true, decide_eq_true_iff] at hB
      obtain ⟨⟨_, hk⟩, hk2⟩ := hB
      have h01 : (kindSpec (c :: t)).1 = 1 ∨ (kindSpec (c :: t)).1 = 0 := by
        rcases hk2 with h | h
        · exact .inl h.1
        · exact .inr h.1.1
      rcases kind_cases hk with ⟨_, _, he⟩ | ⟨W, hW, hc4, he⟩
      · rw [he] at h01
        rcases h01 with h | h <;> cases h
      · rw [he] at h01
        rcases hc4 with rfl | rfl | rfl | rfl
        · exact absurd (show kindNum [97, 114, 114] = 1 ∨ kindNum [97, 114, 114] = 0 from h01) (by decide)
        · obtain ⟨_, hx⟩ := tw_cons hW
          injection hx with hx _
          exact hc hx
        · obtain ⟨_, hx⟩ := tw_cons hW
          injection hx with hx _
          exact hc hx
        · exact absurd (show kindNum [109, 101, 109] = 1 ∨ kindNum [109, 101, 109] = 0 from h01) (by decide)
end Go.Proofs.YtiofnjnaleglgaaGreatDoor

/-
  The reference's reading of names and foreign types as plain functions on bytes, and that the program's reading says the same of a string that begins with an exclamation mark.
-/
namespace Go.Proofs.YtiofnjnaleglgaaGreatDoor
open Go.RowKit

def headLetter (l : List UInt8) : Bool := match l with | [] => false | c :: _ => bLetter c
/-- The reference's 'IsName'. -/
def isNameR (l : List UInt8) : Bool := decide (l.length ≤ 60) && headLetter l && l.tail.all bPart
def notDot (b : UInt8) : Bool := !(bIs 46 b)
/-- The reference's 'IsPair'. -/
def isPairR (l : List UInt8) (most : Nat) : Bool := decide (l.length ≤ most) && !(l.dropWhile notDot).isEmpty && isNameR (l.takeWhile notDot) && isNameR (l.dropWhile notDot).tail

theorem letter_part {c : UInt8} (h : bLetter c = true) : bPart c = true := (part_iff c).2 (.inl ((letter_iff c).1 h))
theorem isNameR_iff (l : List UInt8) : isNameR l = true ↔ l.length ≤ 60 ∧ headLetter l = true ∧ l.all bPart = true := by
  unfold isNameR
  rw [Bool.and_eq_true, Bool.and_eq_true, decide_eq_true_iff]
  cases l with
  | nil => simp [headLetter]
  | cons c l =>
    simp only [headLetter, List.tail_cons, List.all_cons, Bool.and_eq_true]
    constructor
    · rintro ⟨⟨h1, h2⟩, h3⟩; exact ⟨h1, h2, letter_part h2, h3⟩
    · rintro ⟨h1, h2, _, h3⟩; exact ⟨⟨h1, h2⟩, h3⟩
theorem tw_append {p : UInt8 → Bool} : ∀ {l m : List UInt8}, l.all p = true → (l ++ m).takeWhile p = l ++ m.takeWhile p ∧ (l ++ m).dropWhile p = m.dropWhile p
  | [], _, _ => ⟨rfl, rfl⟩
  | a :: l, m, h => by
    rw [List.all_cons, Bool.and_eq_true] at h
    obtain ⟨h1, h2⟩ := tw_append (m := m) h.2
    simp [h.1, h1, h2]
theorem all_imp {p q : UInt8 → Bool} {l : List UInt8} (h : l.all p = true) (hpq : ∀ c, p c = true → q c = true) : l.all q = true := by
  rw [List.all_eq_true] at h ⊢
  exact fun c hc => hpq c (h c hc)
theorem part_notDot (c : UInt8) (h : bPart c = true) : notDot c = true := by
  unfold notDot
  cases hd : bIs 46 c
  · rfl
  · obtain rfl := (is_iff (x := 46) (by decide) c).1 hd
    exact absurd h (by decide)

theorem nameSpec_eq (l : List UInt8) : nameSpec l = (headLetter (l.takeWhile bPart), l.dropWhile bPart) := rfl
theorem foreignSpec_eq (t : List UInt8) : foreignSpec t = if headLetter (t.takeWhile bPart) = false then (false, t.dropWhile bPart) else
    if (t.dropWhile bPart).takeWhile (bIs 46) = [46] then (headLetter (((t.dropWhile bPart).dropWhile (bIs 46)).takeWhile bPart), ((t.dropWhile bPart).dropWhile (bIs 46)).dropWhile bPart)
    else (false, (t.dropWhile bPart).dropWhile (bIs 46)) := rfl
theorem headLetter_app {l m : List UInt8} (h : headLetter l = true) : headLetter (l ++ m) = true := by
  cases l with
  | nil => cases h
  | cons c l => exact h

theorem foreign_iff (t : List UInt8) (h60 : t.length ≤ 59) : ((foreignSpec t).1 = true ∧ (foreignSpec t).2 = []) ↔ isPairR t 59 = true := by
  unfold isPairR
  rw [decide_eq_true h60, Bool.true_and, Bool.and_eq_true, Bool.and_eq_true, isNameR_iff, isNameR_iff]
  constructor
  · intro h
    rw [foreignSpec_eq] at h
    by_cases hA : headLetter (t.takeWhile bPart) = false
    · rw [if_pos hA] at h
      exact absurd h.1 Bool.false_ne_true
    rw [if_neg hA] at h
    simp only [Bool.not_eq_false] at hA
    by_cases hrun : (t.dropWhile bPart).takeWhile (bIs 46) = [46]
    · rw [if_pos hrun] at h
      obtain ⟨r, hr, _, hdr⟩ := (run_iff (x := 46) (by decide) _).1 hrun
      rw [hdr] at h
      have hA2 := tw_is_all (p := bPart) t
      have hcat := tw_dw (p := bPart) t
      rw [hr] at hcat
      obtain ⟨h1, h2⟩ := tw_append (p := notDot) (m := 46 :: r) (all_imp hA2 part_notDot)
      rw [hcat] at h1 h2
      have h46 : notDot 46 = false := by decide
      simp only [List.takeWhile_cons, h46, List.dropWhile_cons, List.append_nil, Bool.false_eq_true, if_false] at h1 h2
      have hr2 := dw_nil_all h.2
      have hlen := congrArg List.length hcat
      simp only [List.length_append, List.length_cons] at hlen
      rw [h1, h2, List.tail_cons]
      refine ⟨⟨rfl, ⟨by omega, hA, hA2⟩⟩, ⟨by omega, ?_, hr2⟩⟩
      rw [(tw_all hr2).1] at h
      exact h.1
    · rw [if_neg hrun] at h
      exact absurd h.1 Bool.false_ne_true
  · rintro ⟨⟨hne, _, hA, hA2⟩, _, hr, hr2⟩
    obtain ⟨c, r, hd⟩ : ∃ c r, t.dropWhile notDot = c :: r := by
      cases hd : t.dropWhile notDot with
      | nil => rw [hd] at hne; cases hne
      | cons c r => exact ⟨c, r, rfl⟩
    rw [hd, List.tail_cons] at hr hr2
    have hc : c = 46 := by
      have := dw_head hd
      unfold notDot at this
      simp only [Bool.not_eq_false'] at this
      exact (is_iff (x := 46) (by decide) c).1 this
    subst hc
    have hcat := tw_dw (p := notDot) t
    rw [hd] at hcat
    obtain ⟨h1, h2⟩ := tw_append (p := bPart) (m := 46 :: r) hA2
    rw [hcat] at h1 h2
    have h46 : bPart 46 = false := by decide
    simp only [List.takeWhile_cons, h46, List.dropWhile_cons, List.append_nil, Bool.false_eq_true, if_false] at h1 h2
    have hrun : (46 :: r).takeWhile (bIs 46) = [46] ∧ (46 :: r).dropWhile (bIs 46) = r := by
      have hh : r.head? ≠ some 46 := by
        cases r with
        | nil => cases hr
        | cons c r =>
          intro h
          rw [List.head?_cons] at h
          cases h
          exact absurd (show bLetter 46 = true from hr) (by decide)
      have hx : (46 :: r).takeWhile (bIs 46) = [46] := (run_iff (x := 46) (by decide) _).2 ⟨r, rfl, hh, by
        cases r with
        | nil => cases hr
        | cons c r =>
          have hc : bIs 46 c = false := by
            cases hb : bIs 46 c
            · rfl
            · exact absurd (congrArg some ((is_iff (x := 46) (by decide) c).1 hb)) (by simpa using hh)
          simp [show bIs 46 46 = true by decide, hc]⟩
      obtain ⟨r', hr', _, hdr⟩ := (run_iff (x := 46) (by decide) _).1 hx
      injection hr' with _ hr'
      exact ⟨hx, by rw [hdr, ← hr']⟩
    obtain ⟨h3, h4⟩ := tw_all hr2
    rw [foreignSpec_eq]
    simp only [h1, h2, hA, hrun.1, hrun.2, h3, h4, hr, Bool.true_eq_false, if_false, if_true, and_self]

theorem desc_f (t : List UInt8) : descSpec (33 :: t) = if isPairR t 59 = true then ⟨4, 0, 0, 0, 0, 0, []⟩ else descZero := by
  have hl : (33 :: t).takeWhile bLetter = [] := by simp [show bLetter 33 = false by decide]
  cases hk : (kindSpec (33 :: t)).2.1
  · rw [desc_none hk, if_neg]
    intro hp
    have ht : t.head? ≠ some 33 := by
      unfold isPairR at hp
      simp only [Bool.and_eq_true, isNameR_iff] at hp
      have hA := hp.1.2.2.1
      cases t with
      | nil => cases hA
      | cons c t =>
        intro h
        rw [List.head?_cons] at h
        cases h
        simp only [List.takeWhile_cons, show notDot 33 = true by decide, if_true] at hA
        exact absurd (show bLetter 33 = true from hA) (by decide)
    have hd : (33 :: t).dropWhile (bIs 33) = t := by
      cases t with
      | nil => decide
      | cons c r =>
        have hc : bIs 33 c = false := by
          cases hb : bIs 33 c
          · rfl
          · exact absurd (congrArg some ((is_iff (x := 33) (by decide) c).1 hb)) (by simpa using ht)
        simp [show bIs 33 33 = true by decide, hc]
    have hrun := (run_iff (x := 33) (by decide) (33 :: t)).2 ⟨t, rfl, ht, hd⟩
    rw [kindSpec, if_pos hl, tw_nil hl, hrun] at hk
    cases hk
  · rcases kind_cases hk with ⟨_, hrun, he⟩ | ⟨W, hW, h4, _⟩
    · obtain ⟨r, hr, _, hdr⟩ := (run_iff (x := 33) (by decide) _).1 hrun
      injection hr with _ hr
      subst hr
      rw [hdr] at he
      rw [descSpec, he]
      simp only [Bool.true_eq_false, if_false, show ¬ (4 : Int) = 1 by decide, show ¬ ((4 : Int) = 2 ∨ (4 : Int) = 3) by decide, if_true]
      by_cases h60 : 60 < (33 :: t).length
      · rw [if_pos h60, if_neg]
        intro h
        unfold isPairR at h
        simp only [Bool.and_eq_true, decide_eq_true_iff] at h
        simp only [List.length_cons] at h60
        omega
      · rw [if_neg h60]
        have hi := foreign_iff t (by simp only [List.length_cons] at h60; omega)
        by_cases hp : isPairR t 59 = true
        · rw [if_pos hp, if_pos (hi.2 hp)]
        · rw [if_neg hp, if_neg (fun h => hp (hi.1 h))]
    · rw [hl] at hW
      subst hW
      exact absurd h4 (by decide)
end Go.Proofs.YtiofnjnaleglgaaGreatDoor

/-
  The smallest functions of package attrs by contracts: characters and names.
-/
namespace Go.Proofs.YtiofnjnaleglgaaGreatDoor
open Go.RowKit

set_option maxHeartbeats 400000 in
theorem aLetter_any (c : Int) (w : World) :
    Calls Tryz.prog 81 #[.int .i32 c] w fun e w' => e = .returned (.bool (chLetter c)) ∧ w = w' := by
  by_cases h1 : 97 ≤ c <;> by_cases h2 : c ≤ 122 <;>
  · go_enter Tryz.func81, Tryz.ntmps81
    go_wp2
    go_ret
    exact ⟨by simp [chLetter, h1, h2], rfl⟩

set_option maxHeartbeats 400000 in
theorem aDigit_any (c : Int) (w : World) :
    Calls Tryz.prog 82 #[.int .i32 c] w fun e w' => e = .returned (.bool (chDigit c)) ∧ w = w' := by
  by_cases h1 : 48 ≤ c <;> by_cases h2 : c ≤ 57 <;>
  · go_enter Tryz.func82, Tryz.ntmps82
    go_wp2
    go_ret
    exact ⟨by simp [chDigit, h1, h2], rfl⟩

/-- Whether the first k characters may begin a name. -/
def nameUpto (s : ByteArray) (k : Nat) : Prop := ∀ j (h : j < s.size), j < k → (if j = 0 then bLetter (s[j]'h) else bPart (s[j]'h)) = true
theorem name_full {s : ByteArray} (h0 : 0 < s.size) (h60 : s.size ≤ 60) (h : nameUpto s s.size) : isNameR s.data.toList = true := by
  rw [isNameR_iff]
  refine ⟨by rw [← size_eq]; exact h60, ?_, ?_⟩
  · have := h 0 h0 h0
    rw [if_pos rfl] at this
    have e := head_at s h0
    cases hl : s.data.toList with
    | nil => rw [hl] at e; cases e
    | cons c t =>
      rw [hl] at e
      have e : c = s[0]'h0 := Option.some.inj e
      rw [headLetter, e]; exact this
  · rw [List.all_eq_true]
    intro c hc
    obtain ⟨j, hj, rfl⟩ := List.mem_iff_getElem.1 hc
    have hj' : j < s.size := by rw [size_eq]; exact hj
    have := h j hj' hj'
    by_cases e : j = 0
    · rw [if_pos e] at this; exact letter_part this
    · rw [if_neg e] at this; exact this
theorem name_bad {s : ByteArray} {k : Nat} (hk : k < s.size) (h : (if k = 0 then bLetter (s[k]'hk) else bPart (s[k]'hk)) = false) : isNameR s.data.toList = false := by
  cases hn : isNameR s.data.toList with
  | false => rfl
  | true =>
    obtain ⟨_, h1, h2⟩ := (isNameR_iff _).1 hn
    by_cases e : k = 0
    · subst e
      rw [if_pos rfl] at h
      have e := head_at s hk
      cases hl : s.data.toList with
      | nil => rw [hl] at e; cases e
      | cons c t =>
        rw [hl] at e h1
        have e : c = s[0]'hk := Option.some.inj e
        rw [headLetter, e] at h1
        exact absurd (h1.symm.trans h) (by decide)
    · rw [if_neg e] at h
      have hm : s[k]'hk ∈ s.data.toList := List.mem_iff_getElem.2 ⟨k, by rw [← size_eq]; exact hk, rfl⟩
      have := List.all_eq_true.1 h2 _ hm
      exact absurd (this.symm.trans h) (by decide)
theorem name_long {s : ByteArray} (h : 60 < s.size) : isNameR s.data.toList = false := by
  cases hn : isNameR s.data.toList with
  | false => rfl
  | true =>
    have := ((isNameR_iff _).1 hn).1
    rw [← size_eq] at this
    omega
theorem nameUpto_next {s : ByteArray} {k : Nat} (h : nameUpto s k) (hk : k < s.size) (hp : (if k = 0 then bLetter (s[k]'hk) else bPart (s[k]'hk)) = true) : nameUpto s (k + 1) := fun j hj hlt =>
  (Nat.lt_succ_iff_lt_or_eq.1 hlt).elim (h j hj) (fun e => by subst e; exact hp)
theorem iter_below (w : World) (s : ByteArray) (n : Nat) : Below w.heap.size w (w.iter s n) := (Below.refl _ _).alloc (Nat.le_refl _) _

set_option maxHeartbeats 1000000 in
set_option maxRecDepth 100000 in
theorem aName_any (s : ByteArray) (w : World) :
    Calls Tryz.prog 58 #[.string s] w fun e w' => e = .returned (.bool (isNameR s.data.toList)) ∧ Below w.heap.size w w' := by
  by_cases h0 : s.size = 0
  · obtain rfl : s = ByteArray.empty := by
      apply ByteArray.ext; apply Array.ext'
      rw [size_eq] at h0
      exact List.eq_nil_of_length_eq_zero h0
    go_enter Tryz.func58, Tryz.ntmps58
    go_wp2_with fail
    go_ret
    exact ⟨rfl, Below.refl _ _⟩
  have hne : s.toList.isEmpty = false := by
    cases hx : s.toList.isEmpty with
    | false => rfl
    | true =>
      have := empty_of hx
      rw [size_eq, this] at h0
      exact absurd rfl h0
  have hs1 : ¬ s = ByteArray.empty := fun e => by rw [e] at h0; exact h0 rfl
  have hs2 : ¬ s.toList = [] := fun e => by rw [e] at hne; cases hne
  by_cases h60 : 60 < s.size
  · have hx : (60 : Int) < (s.size : Int) := by omega
    have hf := Lib.hid (name_long h60)
    go_enter Tryz.func58, Tryz.ntmps58
    go_wp2_with fail
    go_ret
    exact ⟨by rw [hf.out]; rfl, Below.refl _ _⟩
  have hx : ¬ (60 : Int) < (s.size : Int) := by omega
  go_enter Tryz.func58, Tryz.ntmps58
  go_wp2_with fail
  go_loopw [3, 4] (fun _ _ wr => ∃ k : Nat, wr = w.iter s k ∧ k ≤ s.size ∧ Hid (nameUpto s k)) (fun _ _ wr => s.size - wr.iterPos w.heap.size)
  case atStart => exact ⟨0, rfl, Nat.zero_le _, fun j _ h => absurd h (Nat.not_lt_zero _)⟩
  case round =>
    obtain ⟨k, rfl, hk, hall⟩ := hrel
    by_cases hp : k < s.size
    · have hnx : ∀ ty, (Instr.next (.pointer (some ⟨w.heap.size, 0, none⟩)) true ty).run Tryz.prog (w.iter s k) = _ := fun ty => run_next_any w s k ty hp
      by_cases ha : (s[k]'hp).toNat < 128
      · rw [decode_ascii s k hp ha] at hnx
        cases hL : chLetter ((s[k]'hp).toNat : Int)
        · by_cases hk0 : k = 0
          · subst hk0
            have hf := Lib.hid (name_bad hp (by rw [if_pos rfl]; exact hL))
            go_wp2_with (go_at_call 81; refine (aLetter_any _ _).mono ?_; rintro e w' ⟨rfl, rfl⟩)
            go_ret
            exact ⟨by rw [hf.out]; rfl, iter_below _ _ _⟩
          · have hk1 : ((k : Int) == 0) = false := by rw [beq_eq_false_iff_ne]; omega
            cases hD : chDigit ((s[k]'hp).toNat : Int)
            · by_cases h95 : ((s[k]'hp).toNat : Int) = 95
              · have hn := Lib.hid (nameUpto_next hall.out hp (by rw [if_neg hk0]; show chPart _ = true; unfold chPart; rw [h95]; decide))
                go_wp2_with (first | (go_at_call 81; refine (aLetter_any _ _).mono ?_; rintro e w' ⟨rfl, rfl⟩) | (go_at_call 82; refine (aDigit_any _ _).mono ?_; rintro e w' ⟨rfl, rfl⟩))
                go_roundw
                case rel => exact ⟨k + 1, rfl, by omega, hn.out⟩
                case measure => simp; omega
              · have hf := Lib.hid (name_bad hp (by rw [if_neg hk0]; show chPart _ = false; unfold chPart; rw [hL, hD, decide_eq_false h95]; rfl))
                go_wp2_with (first | (go_at_call 81; refine (aLetter_any _ _).mono ?_; rintro e w' ⟨rfl, rfl⟩) | (go_at_call 82; refine (aDigit_any _ _).mono ?_; rintro e w' ⟨rfl, rfl⟩))
                go_ret
                exact ⟨by rw [hf.out]; rfl, iter_below _ _ _⟩
            · have hn := Lib.hid (nameUpto_next hall.out hp (by rw [if_neg hk0]; show chPart _ = true; unfold chPart; rw [hL, hD]; rfl))
              go_wp2_with (first | (go_at_call 81; refine (aLetter_any _ _).mono ?_; rintro e w' ⟨rfl, rfl⟩) | (go_at_call 82; refine (aDigit_any _ _).mono ?_; rintro e w' ⟨rfl, rfl⟩))
              go_roundw
              case rel => exact ⟨k + 1, rfl, by omega, hn.out⟩
              case measure => simp; omega
        · have hn := Lib.hid (nameUpto_next hall.out hp (by
            by_cases hk0 : k = 0
            · rw [if_pos hk0]; exact hL
            · rw [if_neg hk0]; exact letter_part hL))
          go_wp2_with (go_at_call 81; refine (aLetter_any _ _).mono ?_; rintro e w' ⟨rfl, rfl⟩)
          go_roundw
          case rel => exact ⟨k + 1, rfl, by omega, hn.out⟩
          case measure => simp; omega
      · have hbad : bPart (s[k]'hp) = false := chPart_high _ (by omega)
        have hbadL : bLetter (s[k]'hp) = false := chLetter_high _ (by omega)
        have hf := Lib.hid (name_bad hp (by
          by_cases hk0 : k = 0
          · rw [if_pos hk0]; exact hbadL
          · rw [if_neg hk0]; exact hbad))
        have hh := (decode_high s k hp (by omega)).1
        have hL : chLetter (((Utf8.decode s k).1 : Nat) : Int) = false := chLetter_high _ hh
        have hD : chDigit (((Utf8.decode s k).1 : Nat) : Int) = false := chDigit_high _ hh
        have h95 : ¬ (((Utf8.decode s k).1 : Nat) : Int) = 95 := by omega
        generalize Utf8.decode s k = cw at hnx hL hD h95
        clear hbad hbadL hh
        by_cases hk0 : k = 0
        · subst hk0
          go_wp2_with (first | (go_at_call 81; refine (aLetter_any _ _).mono ?_; rintro e w' ⟨rfl, rfl⟩) | (go_at_call 82; refine (aDigit_any _ _).mono ?_; rintro e w' ⟨rfl, rfl⟩))
          go_ret
          exact ⟨by rw [hf.out]; rfl, iter_below _ _ _⟩
        · have hk1 : ((k : Int) == 0) = false := by rw [beq_eq_false_iff_ne]; omega
          go_wp2_with (first | (go_at_call 81; refine (aLetter_any _ _).mono ?_; rintro e w' ⟨rfl, rfl⟩) | (go_at_call 82; refine (aDigit_any _ _).mono ?_; rintro e w' ⟨rfl, rfl⟩))
          go_ret
          exact ⟨by rw [hf.out]; rfl, iter_below _ _ _⟩
    · have hnx : ∀ ty, (Instr.next (.pointer (some ⟨w.heap.size, 0, none⟩)) true ty).run Tryz.prog (w.iter s k) = _ := fun ty => run_next_end w s k ty hp
      obtain rfl : k = s.size := by omega
      have hf := Lib.hid (name_full (by omega) (by omega) hall.out)
      go_wp2_with fail
      go_ret
      exact ⟨by rw [hf.out]; rfl, iter_below _ _ _⟩
end Go.Proofs.YtiofnjnaleglgaaGreatDoor

