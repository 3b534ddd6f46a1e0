/-
  The reference's reading of numbers and number types as plain functions on bytes, and that it says what the program's reading says.
-/
import Derived.Test.YtjkhjflemcljdaaGreatDoorH
namespace Go.Proofs.YtjkhjflemcljdaaGreatDoor
open Go.RowKit

theorem digit_iff (c : UInt8) : bDigit c = true ↔ 48 ≤ c.toNat ∧ c.toNat ≤ 57 := by
  unfold bDigit chDigit
  rw [Bool.and_eq_true, decide_eq_true_iff, decide_eq_true_iff]
  omega
theorem letter_iff (c : UInt8) : bLetter c = true ↔ 97 ≤ c.toNat ∧ c.toNat ≤ 122 := by
  unfold bLetter chLetter
  rw [Bool.and_eq_true, decide_eq_true_iff, decide_eq_true_iff]
  omega
theorem part_iff (c : UInt8) : bPart c = true ↔ (97 ≤ c.toNat ∧ c.toNat ≤ 122) ∨ (48 ≤ c.toNat ∧ c.toNat ≤ 57) ∨ c.toNat = 95 := by
  unfold bPart chPart
  rw [Bool.or_eq_true, Bool.or_eq_true, decide_eq_true_iff]
  have h1 := letter_iff c
  have h2 := digit_iff c
  unfold bLetter at h1
  unfold bDigit at h2
  rw [h1, h2]
  omega
theorem is_iff {x : UInt8} {y : Int} (hx : (x.toNat : Int) = y) (c : UInt8) : bIs y c = true ↔ c = x := by
  unfold bIs
  rw [beq_iff_eq, ← hx]
  constructor
  · intro h; exact UInt8.toNat_inj.1 (by omega)
  · rintro rfl; rfl

section
variable {p : UInt8 → Bool}
theorem tw_snoc {c : UInt8} (h : p c = false) : ∀ l : List UInt8, (l ++ [c]).takeWhile p = l.takeWhile p ∧ (l ++ [c]).dropWhile p = l.dropWhile p ++ [c]
  | [] => by simp [h]
  | a :: l => by
    obtain ⟨h1, h2⟩ := tw_snoc h l
    cases ha : p a
    · simp [ha]
    · simp [ha, h1, h2]
theorem tw_all : ∀ {l : List UInt8}, l.all p = true → l.takeWhile p = l ∧ l.dropWhile p = []
  | [], _ => ⟨rfl, rfl⟩
  | a :: l, h => by
    rw [List.all_cons, Bool.and_eq_true] at h
    obtain ⟨h1, h2⟩ := tw_all h.2
    simp [h.1, h1, h2]
theorem tw_is_all : ∀ (l : List UInt8), (l.takeWhile p).all p = true
  | [] => rfl
  | a :: l => by
    cases ha : p a
    · simp [ha]
    · simp only [List.takeWhile_cons, ha, if_true, List.all_cons, Bool.true_and]
      exact tw_is_all l
theorem dw_head {c : UInt8} {r : List UInt8} : ∀ {l : List UInt8}, l.dropWhile p = c :: r → p c = false
  | [], h => by cases h
  | a :: l, h => by
    cases ha : p a
    · simp only [List.dropWhile_cons, ha] at h
      cases h
      exact ha
    · simp only [List.dropWhile_cons, ha, if_true] at h
      exact dw_head h
theorem tw_nil : ∀ {l : List UInt8}, l.takeWhile p = [] → l.dropWhile p = l
  | [], _ => rfl
  | a :: l, h => by
    cases ha : p a
    · simp [ha]
    · simp [ha] at h
theorem dw_nil_all : ∀ {l : List UInt8}, l.dropWhile p = [] → l.all p = true
  | [], _ => rfl
  | a :: l, h => by
    cases ha : p a
    · simp [ha] at h
    · simp only [List.dropWhile_cons, ha, if_true] at h
      simp only [List.all_cons, ha, Bool.true_and]
      exact dw_nil_all h
theorem tw_dw (l : List UInt8) : l.takeWhile p ++ l.dropWhile p = l := List.takeWhile_append_dropWhile
end

/-- A run of just one x: what stands there, and what is left. -/
theorem run_iff {x : UInt8} {y : Int} (hx : (x.toNat : Int) = y) (l : List UInt8) : l.takeWhile (bIs y) = [x] ↔ ∃ r, l = x :: r ∧ r.head? ≠ some x ∧ l.dropWhile (bIs y) = r := by
  have hb := is_iff hx
  cases l with
  | nil => simp
  | cons a l =>
    cases ha : bIs y a
    · simp only [List.takeWhile_cons, ha]
      constructor
      · intro h; cases h
      · rintro ⟨r, h, _⟩
        cases h
        rw [(hb x).2 rfl] at ha
        cases ha
    · obtain rfl := (hb a).1 ha
      simp only [List.takeWhile_cons, ha, if_true, List.dropWhile_cons, List.cons.injEq, true_and]
      cases l with
      | nil => simp
      | cons c l =>
        cases hc : bIs y c
        · simp only [List.takeWhile_cons, hc, List.dropWhile_cons]
          refine ⟨fun _ => ⟨c :: l, rfl, ?_, rfl⟩, fun _ => rfl⟩
          intro h
          simp only [List.head?_cons, Option.some.injEq] at h
          rw [(hb c).2 h] at hc
          cases hc
        · obtain rfl := (hb c).1 hc
          simp only [List.takeWhile_cons, hc, if_true]
          constructor
          · intro h; cases h
          · rintro ⟨r, rfl, h, _⟩
            exact absurd rfl h

def dvalFrom (n : Nat) (l : List UInt8) : Nat := l.foldl (fun n c => 10 * n + (c.toNat - 48)) n
theorem dval_cons (n : Nat) (c : UInt8) (l : List UInt8) : dvalFrom n (c :: l) = dvalFrom (10 * n + (c.toNat - 48)) l := by
  unfold dvalFrom
  rw [List.foldl_cons]
theorem dval_big : ∀ (l : List UInt8) (n : Nat), n * 10 ^ l.length ≤ dvalFrom n l
  | [], n => by simp [dvalFrom]
  | c :: l, n => by
    rw [dval_cons, List.length_cons, Nat.pow_succ]
    have h := dval_big l (10 * n + (c.toNat - 48))
    generalize 10 ^ l.length = P at h ⊢
    rw [Nat.mul_comm P, ← Nat.mul_assoc, Nat.mul_comm n]
    exact Nat.le_trans (Nat.mul_le_mul_right _ (Nat.le_add_right _ _)) h
theorem dval_le (l : List UInt8) (n : Nat) : n ≤ dvalFrom n l := by
  have h := dval_big l n
  have h2 : n * 1 ≤ n * 10 ^ l.length := Nat.mul_le_mul_left _ (Nat.one_le_pow _ _ (by decide))
  omega
theorem parse_ok : ∀ (l : List UInt8) (n : Nat), l.all bDigit = true → dvalFrom n l < 1000000000 → Lib.parseUint10 n l = .ok (dvalFrom n l)
  | [], n, _, _ => rfl
  | c :: l, n, h, hv => by
    rw [List.all_cons, Bool.and_eq_true] at h
    have hd := (digit_iff c).1 h.1
    rw [dval_cons] at hv
    have hle := dval_le l (10 * n + (c.toNat - 48))
    have ih := parse_ok l _ h.2 hv
    rw [Lib.parseUint10, if_pos hd, if_neg (by omega), if_neg (by omega), show n * 10 + (c.toNat - 48) = 10 * n + (c.toNat - 48) by omega, ih, dval_cons]
theorem parse_val : ∀ (l : List UInt8) (n v : Nat), l.all bDigit = true → Lib.parseUint10 n l = .ok v → v = dvalFrom n l
  | [], n, v, _, h => by
    simp only [Lib.parseUint10] at h
    injection h with h
    exact h.symm
  | c :: l, n, v, h, hv => by
    rw [List.all_cons, Bool.and_eq_true] at h
    rw [Lib.parseUint10, if_pos ((digit_iff c).1 h.1)] at hv
    split at hv
    · cases hv
    · split at hv
      · cases hv
      · rw [dval_cons, show 10 * n + (c.toNat - 48) = n * 10 + (c.toNat - 48) by omega]
        exact parse_val l _ v h.2 hv
theorem atoi_digits {c : UInt8} {r : List UInt8} (hd : 48 ≤ c.toNat ∧ c.toNat ≤ 57) : (∀ u, Lib.parseUint10 0 (c :: r) = .ok u → u < 9223372036854775808 → Lib.atoiAll (c :: r) = .ok (u : Int)) ∧
    (∀ v, Lib.atoiAll (c :: r) = .ok v → ∃ u : Nat, Lib.parseUint10 0 (c :: r) = .ok u ∧ v = u) := by
  have h43 : ¬ c.toNat = 43 := by omega
  have h45 : ¬ c.toNat = 45 := by omega
  simp only [Lib.atoiAll, Lib.parseMag, h43, h45, or_self, if_false, not_false_eq_true, true_and, false_and, reduceCtorEq]
  generalize Lib.parseUint10 0 (c :: r) = z
  cases z with
  | ok u =>
    refine ⟨fun u' h hlt => ?_, fun v h => ?_⟩
    · injection h with h
      subst h
      simp only
      rw [if_neg (by omega)]
    · simp only at h
      split at h
      · cases h
      · injection h with h
        exact ⟨u, rfl, h.symm⟩
  | _ => exact ⟨(fun _ h => by cases h), (fun _ h => by cases h)⟩
theorem atoi_ok {l : List UInt8} (h : l.all bDigit = true) (hne : l ≠ []) (hv : dvalFrom 0 l < 1000000000) : Lib.atoiAll l = .ok (dvalFrom 0 l : Nat) := by
  cases l with
  | nil => exact absurd rfl hne
  | cons c r =>
    have hp := parse_ok (c :: r) 0 h hv
    rw [List.all_cons, Bool.and_eq_true] at h
    exact (atoi_digits ((digit_iff c).1 h.1)).1 _ hp (by omega)
theorem atoi_val {l : List UInt8} {v : Int} (h : l.all bDigit = true) (hv : Lib.atoiAll l = .ok v) : v = (dvalFrom 0 l : Nat) := by
  cases l with
  | nil => cases hv
  | cons c r =>
    have hh := h
    rw [List.all_cons, Bool.and_eq_true] at hh
    obtain ⟨u, hu, rfl⟩ := (atoi_digits ((digit_iff c).1 hh.1)).2 v hv
    rw [parse_val (c :: r) 0 u h hu]

/-- The reference's 'Num'. -/
def numR (l : List UInt8) (most : Nat) : Nat × Bool :=
  if l = [] ∨ 9 < l.length ∨ (1 < l.length ∧ l.head? = some 48) then (0, false)
  else if l.all bDigit then (dvalFrom 0 l, decide (dvalFrom 0 l ≤ most)) else (0, false)
theorem numR_yes {l : List UInt8} {m : Nat} (h : (numR l m).2 = true) : l.all bDigit = true ∧ l ≠ [] ∧ l.length ≤ 9 ∧ (numR l m).1 = dvalFrom 0 l ∧ dvalFrom 0 l ≤ m ∧ ¬ (1 < l.length ∧ l.head? = some 48) := by
  unfold numR at h ⊢
  split at h
  · cases h
  · rename_i hc
    split at h
    · rename_i hd
      rw [if_neg hc, if_pos hd]
      exact ⟨hd, fun e => hc (.inl e), by omega, rfl, by simpa using h, fun e => hc (.inr (.inr e))⟩
    · cases h
theorem numR_no {l : List UInt8} {m : Nat} (h : l = [] ∨ 9 < l.length ∨ (1 < l.length ∧ l.head? = some 48)) : numR l m = (0, false) := by rw [numR, if_pos h]
theorem numSpec_numR {l : List UInt8} (hl : l.all bDigit = true) (lo hi : Nat) (hhi : hi < 1000000000) :
    numSpec l lo hi = if (numR l hi).2 = true ∧ lo ≤ (numR l hi).1 then (((numR l hi).1 : Int), true) else (0, false) := by
  by_cases h0 : 1 < l.length ∧ l.head? = some 48
  · rw [numSpec, if_pos h0, numR_no (.inr (.inr h0)), if_neg (fun h => by cases h.1)]
  rw [numSpec, if_neg h0]
  by_cases hv : dvalFrom 0 l ≤ hi
  · by_cases hne : l = []
    · subst hne; rfl
    · have hlen : l.length ≤ 9 := by
        cases l with
        | nil => exact absurd rfl hne
        | cons c r =>
          have hh := hl
          rw [List.all_cons, Bool.and_eq_true] at hh
          have hd := (digit_iff c).1 hh.1
          refine Nat.le_of_not_lt fun hlt => ?_
          have hc : c.toNat ≠ 48 := fun e => h0 ⟨by omega, by rw [List.head?_cons]; exact congrArg some (UInt8.toNat_inj.1 e)⟩
          have hb := dval_big r (10 * 0 + (c.toNat - 48))
          rw [← dval_cons] at hb
          have h9 : 10 ^ 9 ≤ 10 ^ r.length := Nat.pow_le_pow_right (by decide) (by simpa using Nat.le_of_lt_succ hlt)
          have h1 : 1 * 10 ^ r.length ≤ (10 * 0 + (c.toNat - 48)) * 10 ^ r.length := Nat.mul_le_mul_right _ (by omega)
          have h99 : (10 : Nat) ^ 9 = 1000000000 := by decide
          omega
      have hr : numR l hi = (dvalFrom 0 l, true) := by
        rw [numR, if_neg (fun h => h.elim hne (fun h => h.elim (Nat.not_lt.2 hlen) h0)), if_pos hl, decide_eq_true hv]
      rw [hr, atoi_ok hl hne (by omega)]
      simp only [true_and]
      by_cases hlo : lo ≤ dvalFrom 0 l
      · rw [if_pos (by omega), if_pos hlo]
      · rw [if_neg (by omega), if_neg hlo]
  · have hr : ¬ (numR l hi).2 = true := fun h => hv (numR_yes h).2.2.2.2.1
    rw [if_neg (fun h => hr h.1)]
    split
    · rename_i v hz
      have := atoi_val hl hz
      rw [if_neg (by omega)]
    · rfl
end Go.Proofs.YtjkhjflemcljdaaGreatDoor
