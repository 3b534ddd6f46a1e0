import Derived.Test.YtgimdkgjfenafaaGreatDoorCG05
namespace Go.Proofs.YtgimdkgjfenafaaGreatDoor
open Go.RowKit
theorem digit_iff (c : UInt8) : bDigit c = true ↔ 48 ≤ c.toNat ∧ c.toNat ≤ 57 := by
 unfold bDigit chDigit
 rw [Bool.and_eq_true, decide_eq_true_iff, decide_eq_true_iff]
 omega
theorem letter_iff (c : UInt8) : bLetter c = true ↔ 97 ≤ c.toNat ∧ c.toNat ≤ 122 := by
 unfold bLetter chLetter
 rw [Bool.and_eq_true, decide_eq_true_iff, decide_eq_true_iff]
 omega
theorem part_iff (c : UInt8) : bPart c = true ↔ (97 ≤ c.toNat ∧ c.toNat ≤ 122) ∨ (48 ≤ c.toNat ∧ c.toNat ≤ 57) ∨ c.toNat = 95 := by
 unfold bPart chPart
 rw [Bool.or_eq_true, Bool.or_eq_true, decide_eq_true_iff]
 have h1 := letter_iff c
 have h2 := digit_iff c
 unfold bLetter at h1
 unfold bDigit at h2
 rw [h1, h2]
 omega
theorem is_iff {x : UInt8} {y : Int} (hx : (x.toNat : Int) = y) (c : UInt8) : bIs y c = true ↔ c = x := by
 unfold bIs
 rw [beq_iff_eq, ← hx]
 constructor
 ·intro h; exact UInt8.toNat_inj.1 (by omega)
 ·rintro rfl; rfl
section
variable {p : UInt8 → Bool}
theorem tw_snoc {c : UInt8} (h : p c = false) : ∀ l : List UInt8, (l ++ [c]).takeWhile p = l.takeWhile p ∧ (l ++ [c]).dropWhile p = l.dropWhile p ++ [c]
 | [] => by simp [h]
 | a :: l => by
  obtain ⟨h1, h2⟩ := tw_snoc h l
  cases ha : p a
  ·simp [ha]
  ·simp [ha, h1, h2]
theorem tw_all : ∀ {l : List UInt8}, l.all p = true → l.takeWhile p = l ∧ l.dropWhile p = []
 | [], _ => ⟨rfl, rfl⟩
 | a :: l, h => by
  rw [List.all_cons, Bool.and_eq_true] at h
  obtain ⟨h1, h2⟩ := tw_all h.2
  simp [h.1, h1, h2]
theorem tw_is_all : ∀ (l : List UInt8), (l.takeWhile p).all p = true
 | [] => rfl
 | a :: l => by
  cases ha : p a
  ·simp [ha]
  ·simp only [List.takeWhile_cons, ha, if_true, List.all_cons, Bool.true_and]
   exact tw_is_all l
theorem dw_head {c : UInt8} {r : List UInt8} : ∀ {l : List UInt8}, l.dropWhile p = c :: r → p c = false
 | [], h => by cases h
 | a :: l, h => by
  cases ha : p a
  ·simp only [List.dropWhile_cons, ha] at h
   cases h
   exact ha
  ·simp only [List.dropWhile_cons, ha, if_true] at h
   exact dw_head h
theorem tw_nil : ∀ {l : List UInt8}, l.takeWhile p = [] → l.dropWhile p = l
 | [], _ => rfl
 | a :: l, h => by
  cases ha : p a
  ·simp [ha]
  ·simp [ha] at h
theorem dw_nil_all : ∀ {l : List UInt8}, l.dropWhile p = [] → l.all p = true
 | [], _ => rfl
 | a :: l, h => by
  cases ha : p a
  ·simp [ha] at h
  ·simp only [List.dropWhile_cons, ha, if_true] at h
   simp only [List.all_cons, ha, Bool.true_and]
   exact dw_nil_all h
theorem tw_dw (l : List UInt8) : l.takeWhile p ++ l.dropWhile p = l := List.takeWhile_append_dropWhile
end
theorem run_iff {x : UInt8} {y : Int} (hx : (x.toNat : Int) = y) (l : List UInt8) : l.takeWhile (bIs y) = [x] ↔ ∃ r, l = x :: r ∧ r.head? ≠ some x ∧ l.dropWhile (bIs y) = r := by
 have hb := is_iff hx
 cases l with
 | nil => simp
 | cons a l =>
  cases ha : bIs y a
  ·simp only [List.takeWhile_cons, ha]
   constructor
   ·intro h; cases h
   ·rintro ⟨r, h, _⟩
    cases h
    rw [(hb x).2 rfl] at ha
    cases ha
  ·obtain rfl := (hb a).1 ha
   simp only [List.takeWhile_cons, ha, if_true, List.dropWhile_cons, List.cons.injEq, true_and]
   cases l with
   | nil => simp
   | cons c l =>
    cases hc : bIs y c
    ·simp only [List.takeWhile_cons, hc, List.dropWhile_cons]
     refine ⟨fun _ => ⟨c :: l, rfl, ?_, rfl⟩, fun _ => rfl⟩
     intro h
     simp only [List.head?_cons, Option.some.injEq] at h
     rw [(hb c).2 h] at hc
     cases hc
    ·obtain rfl := (hb c).1 hc
     simp only [List.takeWhile_cons, hc, if_true]
     constructor
     ·intro h; cases h
     ·rintro ⟨r, rfl, h, _⟩
      exact absurd rfl h
def dvalFrom (n : Nat) (l : List UInt8) : Nat := l.foldl (fun n c => 10 * n + (c.toNat - 48)) n
theorem dval_cons (n : Nat) (c : UInt8) (l : List UInt8) : dvalFrom n (c :: l) = dvalFrom (10 * n + (c.toNat - 48)) l := by
 unfold dvalFrom
 rw [List.foldl_cons]
theorem dval_big : ∀ (l : List UInt8) (n : Nat), n * 10 ^ l.length ≤ dvalFrom n l
 | [], n => by simp [dvalFrom]
 | c :: l, n => by
  rw [dval_cons, List.length_cons, Nat.pow_succ]
  have h := dval_big l (10 * n + (c.toNat - 48))
  generalize 10 ^ l.length = P at h ⊢
  rw [Nat.mul_comm P, ← Nat.mul_assoc, Nat.mul_comm n]
  exact Nat.le_trans (Nat.mul_le_mul_right _ (Nat.le_add_right _ _)) h
theorem dval_le (l : List UInt8) (n : Nat) : n ≤ dvalFrom n l := by
 have h := dval_big l n
 have h2 : n * 1 ≤ n * 10 ^ l.length := Nat.mul_le_mul_left _ (Nat.one_le_pow _ _ (by decide))
 omega
theorem parse_ok : ∀ (l : List UInt8) (n : Nat), l.all bDigit = true → dvalFrom n l < 1000000000 → Lib.parseUint10 n l = .ok (dvalFrom n l)
 | [], n, _, _ => rfl
 | c :: l, n, h, hv => by
  rw [List.all_cons, Bool.and_eq_true] at h
  have hd := (digit_iff c).1 h.1
  rw [dval_cons] at hv
  have hle := dval_le l (10 * n + (c.toNat - 48))
  have ih := parse_ok l _ h.2 hv
  rw [Lib.parseUint10, if_pos hd, if_neg (by omega), if_neg (by omega), show n * 10 + (c.toNat - 48) = 10 * n + (c.toNat - 48) by omega, ih, dval_cons]
theorem parse_val : ∀ (l : List UInt8) (n v : Nat), l.all bDigit = true → Lib.parseUint10 n l = .ok v → v = dvalFrom n l
 | [], n, v, _, h => by
  simp only [Lib.parseUint10] at h
  injection h with h
  exact h.symm
 | c :: l, n, v, h, hv => by
  rw [List.all_cons, Bool.and_eq_true] at h
  rw [Lib.parseUint10, if_pos ((digit_iff c).1 h.1)] at hv
  split at hv
  ·cases hv
  ·split at hv
   ·cases hv
   ·rw [dval_cons, show 10 * n + (c.toNat - 48) = n * 10 + (c.toNat - 48) by omega]
    exact parse_val l _ v h.2 hv
theorem atoi_digits {c : UInt8} {r : List UInt8} (hd : 48 ≤ c.toNat ∧ c.toNat ≤ 57) : (∀ u, Lib.parseUint10 0 (c :: r) = .ok u → u < 9223372036854775808 → Lib.atoiAll (c :: r) = .ok (u : Int)) ∧
  (∀ v, Lib.atoiAll (c :: r) = .ok v → ∃ u : Nat, Lib.parseUint10 0 (c :: r) = .ok u ∧ v = u) := by
 have h43 : ¬ c.toNat = 43 := by omega
 have h45 : ¬ c.toNat = 45 := by omega
 simp only [Lib.atoiAll, Lib.parseMag, h43, h45, or_self, if_false, not_false_eq_true, true_and, false_and, reduceCtorEq]
 generalize Lib.parseUint10 0 (c :: r) = z
 cases z with
 | ok u =>
  refine ⟨fun u' h hlt => ?_, fun v h => ?_⟩
  ·injection h with h
   subst h
   simp only
   rw [if_neg (by omega)]
  ·simp only at h
   split at h
   ·cases h
   ·injection h with h
    exact ⟨u, rfl, h.symm⟩
 | _ => exact ⟨(fun _ h => by cases h), (fun _ h => by cases h)⟩
theorem atoi_ok {l : List UInt8} (h : l.all bDigit = true) (hne : l ≠ []) (hv : dvalFrom 0 l < 1000000000) : Lib.atoiAll l = .ok (dvalFrom 0 l : Nat) := by
 cases l with
 | nil => exact absurd rfl hne
 | cons c r =>
  have hp := parse_ok (c :: r) 0 h hv
  rw [List.all_cons, Bool.and_eq_true] at h
  exact (atoi_digits ((digit_iff c).1 h.1)).1 _ hp (by omega)
theorem atoi_val {l : List UInt8} {v : Int} (h : l.all bDigit = true) (hv : Lib.atoiAll l = .ok v) : v = (dvalFrom 0 l : Nat) := by
 cases l with
 | nil => cases hv
 | cons c r =>
  have hh := h
  rw [List.all_cons, Bool.and_eq_true] at hh
  obtain ⟨u, hu, rfl⟩ := (atoi_digits ((digit_iff c).1 hh.1)).2 v hv
  rw [parse_val (c :: r) 0 u h hu]
def numR (l : List UInt8) (most : Nat) : Nat × Bool :=
 if l = [] ∨ 9 < l.length ∨ (1 < l.length ∧ l.head? = some 48) then (0, false)
 else if l.all bDigit then (dvalFrom 0 l, decide (dvalFrom 0 l ≤ most)) else (0, false)
theorem numR_yes {l : List UInt8} {m : Nat} (h : (numR l m).2 = true) : l.all bDigit = true ∧ l ≠ [] ∧ l.length ≤ 9 ∧ (numR l m).1 = dvalFrom 0 l ∧ dvalFrom 0 l ≤ m ∧ ¬ (1 < l.length ∧ l.head? = some 48) := by
 unfold numR at h ⊢
 split at h
 ·cases h
 ·rename_i hc
  split at h
  ·rename_i hd
   rw [if_neg hc, if_pos hd]
   exact ⟨hd, fun e => hc (.inl e), by omega, rfl, by simpa using h, fun e => hc (.inr (.inr e))⟩
  ·cases h
theorem numR_no {l : List UInt8} {m : Nat} (h : l = [] ∨ 9 < l.length ∨ (1 < l.length ∧ l.head? = some 48)) : numR l m = (0, false) := by rw [numR, if_pos h]
theorem numSpec_numR {l : List UInt8} (hl : l.all bDigit = true) (lo hi : Nat) (hhi : hi < 1000000000) :
  numSpec l lo hi = if (numR l hi).2 = true ∧ lo ≤ (numR l hi).1 then (((numR l hi).1 : Int), true) else (0, false) := by
 by_cases h0 : 1 < l.length ∧ l.head? = some 48
 ·rw [numSpec, if_pos h0, numR_no (.inr (.inr h0)), if_neg (fun h => by cases h.1)]
 rw [numSpec, if_neg h0]
 by_cases hv : dvalFrom 0 l ≤ hi
 ·by_cases hne : l = []
  ·subst hne; rfl
  ·have hlen : l.length ≤ 9 := by
    cases l with
    | nil => exact absurd rfl hne
    | cons c r =>
     have hh := hl
     rw [List.all_cons, Bool.and_eq_true] at hh
     have hd := (digit_iff c).1 hh.1
     refine Nat.le_of_not_lt fun hlt => ?_
     have hc : c.toNat ≠ 48 := fun e => h0 ⟨by omega, by rw [List.head?_cons]; exact congrArg some (UInt8.toNat_inj.1 e)⟩
     have hb := dval_big r (10 * 0 + (c.toNat - 48))
     rw [← dval_cons] at hb
     have h9 : 10 ^ 9 ≤ 10 ^ r.length := Nat.pow_le_pow_right (by decide) (by simpa using Nat.le_of_lt_succ hlt)
     have h1 : 1 * 10 ^ r.length ≤ (10 * 0 + (c.toNat - 48)) * 10 ^ r.length := Nat.mul_le_mul_right _ (by omega)
     have h99 : (10 : Nat) ^ 9 = 1000000000 := by decide
     omega
   have hr : numR l hi = (dvalFrom 0 l, true) := by
    rw [numR, if_neg (fun h => h.elim hne (fun h => h.elim (Nat.not_lt.2 hlen) h0)), if_pos hl, decide_eq_true hv]
   rw [hr, atoi_ok hl hne (by omega)]
   simp only [true_and]
   by_cases hlo : lo ≤ dvalFrom 0 l
   ·rw [if_pos (by omega), if_pos hlo]
   ·rw [if_neg (by omega), if_neg hlo]
 ·have hr : ¬ (numR l hi).2 = true := fun h => hv (numR_yes h).2.2.2.2.1
  rw [if_neg (fun h => hr h.1)]
  split
  ·rename_i v hz
   have := atoi_val hl hz
   rw [if_neg (by omega)]
  ·rfl
end Go.Proofs.YtgimdkgjfenafaaGreatDoor
namespace Go.Proofs.YtgimdkgjfenafaaGreatDoor
open Go.RowKit
abbrev idx : List UInt8 := [105, 110, 100, 101, 120]
def numberR (l : List UInt8) : Nat × Bool × Bool :=
 if l = idx then (64, true, true)
 else if l.head? = some 105 then ((numR l.tail 64).1, false, (numR l.tail 64).2 && decide (1 ≤ (numR l.tail 64).1))
 else (0, false, false)
theorem kindSpec_i (t : List UInt8) : kindSpec (105 :: t) = (kindNum (105 :: t.takeWhile bLetter), kindOk (105 :: t.takeWhile bLetter), t.dropWhile bLetter) := by
 have h : bLetter 105 = true := by decide
 unfold kindSpec
 simp only [List.takeWhile_cons, h, if_true, List.dropWhile_cons, reduceCtorEq, if_false]
theorem numR_false {t : List UInt8} {m : Nat} (h : ¬ t.all bDigit = true) : (numR t m).2 = false := by
 cases hz : (numR t m).2
 ·rfl
 ·exact absurd (numR_yes hz).1 h
theorem not_digits {t : List UInt8} (h : ¬ t.takeWhile bLetter = []) : ¬ t.all bDigit = true := by
 cases t with
 | nil => exact absurd rfl h
 | cons c t =>
  cases hc : bLetter c
  ·simp [hc] at h
  ·intro ha
   rw [List.all_cons, Bool.and_eq_true] at ha
   have h1 := (letter_iff c).1 hc
   have h2 := (digit_iff c).1 ha.1
   omega
theorem desc_none {l : List UInt8} (h : (kindSpec l).2.1 = false) : descSpec l = descZero := by
 unfold descSpec
 rw [if_pos h, ite_self]
theorem desc_i (t : List UInt8) : descSpec (105 :: t) =
  if (numberR (105 :: t)).2.2 = true then ⟨if (numberR (105 :: t)).2.1 = true then 1 else 0, ((numberR (105 :: t)).1 : Nat), 0, 0, 0, 0, []⟩ else descZero := by
 by_cases hw : t.takeWhile bLetter = []
 ·have hk : kindSpec (105 :: t) = (0, true, t) := by rw [kindSpec_i, hw, tw_nil hw]; rfl
  have hi : ¬ (105 :: t = idx) := by
   intro h
   injection h with _ h
   subst h
   exact absurd hw (by decide)
  have hn : numberR (105 :: t) = ((numR t 64).1, false, (numR t 64).2 && decide (1 ≤ (numR t 64).1)) := by
   rw [numberR, if_neg hi, if_pos (by rfl)]
   rfl
  rw [hn, descSpec, hk]
  simp only [Bool.true_eq_false, if_false, show ¬ (0 : Int) = 1 by decide, show ¬ ((0 : Int) = 2 ∨ (0 : Int) = 3) by decide, show ¬ (0 : Int) = 4 by decide]
  by_cases ha : t.all bDigit = true
  ·obtain ⟨h1, h2⟩ := tw_all ha
   have hs := numSpec_numR ha 1 64 (by decide)
   rw [h1, h2]
   have hs' : numSpec t 1 64 = if (numR t 64).2 = true ∧ 1 ≤ (numR t 64).1 then (((numR t 64).1 : Int), true) else (0, false) := hs
   rw [hs']
   by_cases hc : (numR t 64).2 = true ∧ 1 ≤ (numR t 64).1
   ·have := (numR_yes hc.1).2.2.1
    rw [if_neg (by simp only [List.length_cons]; omega)]
    simp only [hc.1, hc.2, and_self, if_true, Bool.true_and, decide_true, Bool.false_eq_true, if_false]
   ·rw [if_neg hc]
    simp only [Bool.false_eq_true, false_and, if_false, ite_self]
    rw [if_neg]
    rw [Bool.and_eq_true, decide_eq_true_iff]
    exact hc
  ·have hd : ¬ t.dropWhile bDigit = [] := fun h => ha (dw_nil_all h)
   rw [numR_false ha]
   simp only [hd, and_false, if_false, ite_self, Bool.false_and, Bool.false_eq_true]
 ·by_cases hx : t = [110, 100, 101, 120]
  ·subst hx
   kernel_rfl
  ·have hi : ¬ (105 :: t = idx) := by
    intro h
    injection h with _ h
    exact hx h
   have hn : (numberR (105 :: t)).2.2 = false := by
    rw [numberR, if_neg hi, if_pos (by rfl)]
    simp only [List.tail_cons, numR_false (not_digits hw), Bool.false_and]
   rw [if_neg (by rw [hn]; decide)]
   by_cases hj : t.takeWhile bLetter = [110, 100, 101, 120]
   ·have hk : kindSpec (105 :: t) = (1, true, t.dropWhile bLetter) := by rw [kindSpec_i, hj]; rfl
    have hq : ¬ t.dropWhile bLetter = [] := fun h => hx (by rw [← tw_dw (p := bLetter) t, hj, h]; rfl)
    rw [descSpec, hk]
    simp only [Bool.true_eq_false, if_false, if_true, hq, ite_self]
   ·refine desc_none ?_
    rw [kindSpec_i]
    simp only [kindOk, List.cons.injEq, hw, hj, show ¬ (105 : UInt8) = 33 by decide, show ¬ (105 : UInt8) = 97 by decide, show ¬ (105 : UInt8) = 109 by decide, true_and, false_and, decide_false, Bool.or_self]
theorem kindOk_cases {W : List UInt8} (h : kindOk W = true) : W = [33] ∨ W = [97, 114, 114] ∨ W = [105] ∨ W = idx ∨ W = [109, 101, 109] := by
 simpa [kindOk, or_assoc] using h
theorem kind_cases {l : List UInt8} (h : (kindSpec l).2.1 = true) : (l.takeWhile bLetter = [] ∧ l.takeWhile (bIs 33) = [33] ∧ kindSpec l = (4, true, l.dropWhile (bIs 33))) ∨
  (∃ W, l.takeWhile bLetter = W ∧ (W = [97, 114, 114] ∨ W = [105] ∨ W = idx ∨ W = [109, 101, 109]) ∧ kindSpec l = (kindNum W, true, l.dropWhile bLetter)) := by
 by_cases hl : l.takeWhile bLetter = []
 ·have hd := tw_nil hl
  have he : kindSpec l = (kindNum (l.takeWhile (bIs 33)), kindOk (l.takeWhile (bIs 33)), l.dropWhile (bIs 33)) := by rw [kindSpec, if_pos hl, hd]
  rw [he] at h
  have ha := tw_is_all (p := bIs 33) l
  rcases kindOk_cases h with h1 | h1 | h1 | h1 | h1 <;> rw [h1] at ha
  ·refine .inl ⟨hl, h1, ?_⟩
   rw [he, h1]
   rfl
  all_goals exact absurd ha (by decide)
 ·have he : kindSpec l = (kindNum (l.takeWhile bLetter), kindOk (l.takeWhile bLetter), l.dropWhile bLetter) := by rw [kindSpec, if_neg hl]
  rw [he] at h
  have ha := tw_is_all (p := bLetter) l
  refine .inr ⟨_, rfl, ?_, ?_⟩
  ·rcases kindOk_cases h with h1 | h1
   ·rw [h1] at ha
    exact absurd ha (by decide)
   ·exact h1
  ·rw [he]
   exact congrArg (fun b => (kindNum (l.takeWhile bLetter), b, l.dropWhile bLetter)) h
theorem tw_cons {p : UInt8 → Bool} {c : UInt8} {l W : List UInt8} (h : l.takeWhile p = c :: W) : ∃ t, l = c :: t := by
 cases l with
 | nil => cases h
 | cons a l =>
  cases ha : p a
  ·simp [ha] at h
  ·simp only [List.takeWhile_cons, ha, if_true] at h
   injection h with h _
   exact ⟨l, by rw [h]⟩
theorem numB_numberR (l : List UInt8) : numB l = (numberR l).2.2 := by
 obtain ⟨k, b, r, e0, e1, e2, el, h⟩ : ∃ k b r e0 e1 e2 el, descSpec l = ⟨k, b, r, e0, e1, e2, el⟩ := ⟨_, _, _, _, _, _, _, rfl⟩
 rw [desc_num h]
 cases hl : l with
 | nil =>
  rw [hl] at h
  have h0 : descSpec [] = descZero := by kernel_rfl
  rw [h0] at h
  cases h
  rfl
 | cons c t =>
  rw [hl] at h
  by_cases hc : c = 105
  ·subst hc
   rw [desc_i] at h
   by_cases hn : (numberR (105 :: t)).2.2 = true
   ·rw [if_pos hn] at h
    injection h with _ h
    rw [hn, ← h, decide_eq_true_iff]
    unfold numberR at hn ⊢
    split
    ·decide
    ·rename_i hi
     rw [if_neg hi, if_pos (by rfl)] at hn
     rw [if_pos (by rfl)]
     simp only [Bool.and_eq_true, decide_eq_true_iff] at hn
     simp only
     omega
   ·rw [if_neg hn] at h
    cases h
    simp only [Bool.not_eq_true] at hn
    rw [hn]
    rfl
  ·have hn : numberR (c :: t) = (0, false, false) := by
    rw [numberR, if_neg (fun e => hc (by injection e)), if_neg (fun e => hc (by simpa using e))]
   rw [hn, decide_eq_false_iff_not]
   intro hb
   have hB : numB (c :: t) = true := by rw [desc_num h]; exact decide_eq_true hb
   unfold numB at hB
   simp only [Bool.and_eq_true, Bool.or_eq_true, decide_eq_true_iff] at hB
   obtain ⟨⟨_, hk⟩, hk2⟩ := hB
   have h01 : (kindSpec (c :: t)).1 = 1 ∨ (kindSpec (c :: t)).1 = 0 := by
    rcases hk2 with h | h
    ·exact .inl h.1
    ·exact .inr h.1.1
   rcases kind_cases hk with ⟨_, _, he⟩ | ⟨W, hW, hc4, he⟩
   ·rw [he] at h01
    rcases h01 with h | h <;> cases h
   ·rw [he] at h01
    rcases hc4 with rfl | rfl | rfl | rfl
    ·exact absurd (show kindNum [97, 114, 114] = 1 ∨ kindNum [97, 114, 114] = 0 from h01) (by decide)
    ·obtain ⟨_, hx⟩ := tw_cons hW
     injection hx with hx _
     exact hc hx
    ·obtain ⟨_, hx⟩ := tw_cons hW
     injection hx with hx _
     exact hc hx
    ·exact absurd (show kindNum [109, 101, 109] = 1 ∨ kindNum [109, 101, 109] = 0 from h01) (by decide)
end Go.Proofs.YtgimdkgjfenafaaGreatDoor
namespace Go.Proofs.YtgimdkgjfenafaaGreatDoor
open Go.RowKit
def headLetter (l : List UInt8) : Bool := match l with | [] => false | c :: _ => bLetter c
def isNameR (l : List UInt8) : Bool := decide (l.length ≤ 60) && headLetter l && l.tail.all bPart
def notDot (b : UInt8) : Bool := !(bIs 46 b)
def isPairR (l : List UInt8) (most : Nat) : Bool := decide (l.length ≤ most) && !(l.dropWhile notDot).isEmpty && isNameR (l.takeWhile notDot) && isNameR (l.dropWhile notDot).tail
theorem letter_part {c : UInt8} (h : bLetter c = true) : bPart c = true := (part_iff c).2 (.inl ((letter_iff c).1 h))
theorem isNameR_iff (l : List UInt8) : isNameR l = true ↔ l.length ≤ 60 ∧ headLetter l = true ∧ l.all bPart = true := by
 unfold isNameR
 rw [Bool.and_eq_true, Bool.and_eq_true, decide_eq_true_iff]
 cases l with
 | nil => simp [headLetter]
 | cons c l =>
  simp only [headLetter, List.tail_cons, List.all_cons, Bool.and_eq_true]
  constructor
  ·rintro ⟨⟨h1, h2⟩, h3⟩; exact ⟨h1, h2, letter_part h2, h3⟩
  ·rintro ⟨h1, h2, _, h3⟩; exact ⟨⟨h1, h2⟩, h3⟩
theorem tw_append {p : UInt8 → Bool} : ∀ {l m : List UInt8}, l.all p = true → (l ++ m).takeWhile p = l ++ m.takeWhile p ∧ (l ++ m).dropWhile p = m.dropWhile p
 | [], _, _ => ⟨rfl, rfl⟩
 | a :: l, m, h => by
  rw [List.all_cons, Bool.and_eq_true] at h
  obtain ⟨h1, h2⟩ := tw_append (m := m) h.2
  simp [h.1, h1, h2]
theorem all_imp {p q : UInt8 → Bool} {l : List UInt8} (h : l.all p = true) (hpq : ∀ c, p c = true → q c = true) : l.all q = true := by
 rw [List.all_eq_true] at h ⊢
 exact fun c hc => hpq c (h c hc)
theorem part_notDot (c : UInt8) (h : bPart c = true) : notDot c = true := by
 unfold notDot
 cases hd : bIs 46 c
 ·rfl
 ·obtain rfl := (is_iff (x := 46) (by decide) c).1 hd
  exact absurd h (by decide)
theorem foreignSpec_eq (t : List UInt8) : foreignSpec t = if headLetter (t.takeWhile bPart) = false then (false, t.dropWhile bPart) else
  if (t.dropWhile bPart).takeWhile (bIs 46) = [46] then (headLetter (((t.dropWhile bPart).dropWhile (bIs 46)).takeWhile bPart), ((t.dropWhile bPart).dropWhile (bIs 46)).dropWhile bPart)
  else (false, (t.dropWhile bPart).dropWhile (bIs 46)) := rfl
theorem foreign_iff (t : List UInt8) (h60 : t.length ≤ 59) : ((foreignSpec t).1 = true ∧ (foreignSpec t).2 = []) ↔ isPairR t 59 = true := by
 unfold isPairR
 rw [decide_eq_true h60, Bool.true_and, Bool.and_eq_true, Bool.and_eq_true, isNameR_iff, isNameR_iff]
 constructor
 ·intro h
  rw [foreignSpec_eq] at h
  by_cases hA : headLetter (t.takeWhile bPart) = false
  ·rw [if_pos hA] at h
   exact absurd h.1 Bool.false_ne_true
  rw [if_neg hA] at h
  simp only [Bool.not_eq_false] at hA
  by_cases hrun : (t.dropWhile bPart).takeWhile (bIs 46) = [46]
  ·rw [if_pos hrun] at h
   obtain ⟨r, hr, _, hdr⟩ := (run_iff (x := 46) (by decide) _).1 hrun
   rw [hdr] at h
   have hA2 := tw_is_all (p := bPart) t
   have hcat := tw_dw (p := bPart) t
   rw [hr] at hcat
   obtain ⟨h1, h2⟩ := tw_append (p := notDot) (m := 46 :: r) (all_imp hA2 part_notDot)
   rw [hcat] at h1 h2
   have h46 : notDot 46 = false := by decide
   simp only [List.takeWhile_cons, h46, List.dropWhile_cons, List.append_nil, Bool.false_eq_true, if_false] at h1 h2
   have hr2 := dw_nil_all h.2
   have hlen := congrArg List.length hcat
   simp only [List.length_append, List.length_cons] at hlen
   rw [h1, h2, List.tail_cons]
   refine ⟨⟨rfl, ⟨by omega, hA, hA2⟩⟩, ⟨by omega, ?_, hr2⟩⟩
   rw [(tw_all hr2).1] at h
   exact h.1
  ·rw [if_neg hrun] at h
   exact absurd h.1 Bool.false_ne_true
 ·rintro ⟨⟨hne, _, hA, hA2⟩, _, hr, hr2⟩
  obtain ⟨c, r, hd⟩ : ∃ c r, t.dropWhile notDot = c :: r := by
   cases hd : t.dropWhile notDot with
   | nil => rw [hd] at hne; cases hne
   | cons c r => exact ⟨c, r, rfl⟩
  rw [hd, List.tail_cons] at hr hr2
  have hc : c = 46 := by
   have := dw_head hd
   unfold notDot at this
   simp only [Bool.not_eq_false'] at this
   exact (is_iff (x := 46) (by decide) c).1 this
  subst hc
  have hcat := tw_dw (p := notDot) t
  rw [hd] at hcat
  obtain ⟨h1, h2⟩ := tw_append (p := bPart) (m := 46 :: r) hA2
  rw [hcat] at h1 h2
  have h46 : bPart 46 = false := by decide
  simp only [List.takeWhile_cons, h46, List.dropWhile_cons, List.append_nil, Bool.false_eq_true, if_false] at h1 h2
  have hrun : (46 :: r).takeWhile (bIs 46) = [46] ∧ (46 :: r).dropWhile (bIs 46) = r := by
   have hh : r.head? ≠ some 46 := by
    cases r with
    | nil => cases hr
    | cons c r =>
     intro h
     rw [List.head?_cons] at h
     cases h
     exact absurd (show bLetter 46 = true from hr) (by decide)
   have hx : (46 :: r).takeWhile (bIs 46) = [46] := (run_iff (x := 46) (by decide) _).2 ⟨r, rfl, hh, by
    cases r with
    | nil => cases hr
    | cons c r =>
     have hc : bIs 46 c = false := by
      cases hb : bIs 46 c
      ·rfl
      ·exact absurd (congrArg some ((is_iff (x := 46) (by decide) c).1 hb)) (by simpa using hh)
     simp [show bIs 46 46 = true by decide, hc]⟩
   obtain ⟨r', hr', _, hdr⟩ := (run_iff (x := 46) (by decide) _).1 hx
   injection hr' with _ hr'
   exact ⟨hx, by rw [hdr, ← hr']⟩
  obtain ⟨h3, h4⟩ := tw_all hr2
  rw [foreignSpec_eq]
  simp only [h1, h2, hA, hrun.1, hrun.2, h3, h4, hr, Bool.true_eq_false, if_false, if_true, and_self]
theorem desc_f (t : List UInt8) : descSpec (33 :: t) = if isPairR t 59 = true then ⟨4, 0, 0, 0, 0, 0, []⟩ else descZero := by
 have hl : (33 :: t).takeWhile bLetter = [] := by simp [show bLetter 33 = false by decide]
 cases hk : (kindSpec (33 :: t)).2.1
 ·rw [desc_none hk, if_neg]
  intro hp
  have ht : t.head? ≠ some 33 := by
   unfold isPairR at hp
   simp only [Bool.and_eq_true, isNameR_iff] at hp
   have hA := hp.1.2.2.1
   cases t with
   | nil => cases hA
   | cons c t =>
    intro h
    rw [List.head?_cons] at h
    cases h
    simp only [List.takeWhile_cons, show notDot 33 = true by decide, if_true] at hA
    exact absurd (show bLetter 33 = true from hA) (by decide)
  have hd : (33 :: t).dropWhile (bIs 33) = t := by
   cases t with
   | nil => decide
   | cons c r =>
    have hc : bIs 33 c = false := by
     cases hb : bIs 33 c
     ·rfl
     ·exact absurd (congrArg some ((is_iff (x := 33) (by decide) c).1 hb)) (by simpa using ht)
    simp [show bIs 33 33 = true by decide, hc]
  have hrun := (run_iff (x := 33) (by decide) (33 :: t)).2 ⟨t, rfl, ht, hd⟩
  rw [kindSpec, if_pos hl, tw_nil hl, hrun] at hk
  cases hk
 ·rcases kind_cases hk with ⟨_, hrun, he⟩ | ⟨W, hW, h4, _⟩
  ·obtain ⟨r, hr, _, hdr⟩ := (run_iff (x := 33) (by decide) _).1 hrun
   injection hr with _ hr
   subst hr
   rw [hdr] at he
   rw [descSpec, he]
   simp only [Bool.true_eq_false, if_false, show ¬ (4 : Int) = 1 by decide, show ¬ ((4 : Int) = 2 ∨ (4 : Int) = 3) by decide, if_true]
   by_cases h60 : 60 < (33 :: t).length
   ·rw [if_pos h60, if_neg]
    intro h
    unfold isPairR at h
    simp only [Bool.and_eq_true, decide_eq_true_iff] at h
    simp only [List.length_cons] at h60
    omega
   ·rw [if_neg h60]
    have hi := foreign_iff t (by simp only [List.length_cons] at h60; omega)
    by_cases hp : isPairR t 59 = true
    ·rw [if_pos hp, if_pos (hi.2 hp)]
    ·rw [if_neg hp, if_neg (fun h => hp (hi.1 h))]
  ·rw [hl] at hW
   subst hW
   exact absurd h4 (by decide)
end Go.Proofs.YtgimdkgjfenafaaGreatDoor
namespace Go.Proofs.YtgimdkgjfenafaaGreatDoor
open Go.RowKit
def notX (b : UInt8) : Bool := !(bIs 120 b)
def headDigit (l : List UInt8) : Bool := match l with | [] => false | c :: _ => bDigit c
def extsR : Nat → List UInt8 → List Int → Option (List Int × List UInt8)
 | m, l, es =>
  if headDigit l = false then some (es, l)
  else if (numR (l.takeWhile notX) 1000).2 = false ∨ l.dropWhile notX = [] then none
  else match m with
   | 0 => none
   | m + 1 => extsR m (l.dropWhile notX).tail (es ++ [((numR (l.takeWhile notX) 1000).1 : Int)])
theorem extsR_eq (m : Nat) (l : List UInt8) (es : List Int) : extsR m l es = if headDigit l = false then some (es, l)
  else if (numR (l.takeWhile notX) 1000).2 = false ∨ l.dropWhile notX = [] then none
  else match m with
   | 0 => none
   | m + 1 => extsR m (l.dropWhile notX).tail (es ++ [((numR (l.takeWhile notX) 1000).1 : Int)]) := by
 cases m <;> rw [extsR]
theorem shapeLoop_eq (m : Nat) (l : List UInt8) (r : Nat) (e0 e1 e2 : Int) : shapeLoop m l r e0 e1 e2 = if l.takeWhile bDigit = [] then some (r, e0, e1, e2, l.dropWhile bDigit)
  else if (numSpec (l.takeWhile bDigit) 0 1000).2 = false then none
  else if ¬ (l.dropWhile bDigit).takeWhile (bIs 120) = [120] then none
  else match m with
   | 0 => none
   | m + 1 => shapeLoop m ((l.dropWhile bDigit).dropWhile (bIs 120)) (r + 1)
     (if r = 0 then (numSpec (l.takeWhile bDigit) 0 1000).1 else e0) (if r = 1 then (numSpec (l.takeWhile bDigit) 0 1000).1 else e1) (if r = 2 then (numSpec (l.takeWhile bDigit) 0 1000).1 else e2) := by
 cases m <;> rw [shapeLoop]
theorem headDigit_iff (l : List UInt8) : headDigit l = false ↔ l.takeWhile bDigit = [] := by
 cases l with
 | nil => simp [headDigit]
 | cons c l =>
  cases hc : bDigit c <;> simp [headDigit, hc]
theorem digit_notX (c : UInt8) (h : bDigit c = true) : notX c = true := by
 unfold notX
 cases hd : bIs 120 c
 ·rfl
 ·obtain rfl := (is_iff (x := 120) (by decide) c).1 hd
  exact absurd h (by decide)
def Paired (l : List UInt8) (m r : Nat) (e0 e1 e2 : Int) : Prop :=
 (extsR m l ([e0, e1, e2].take r) = none ∧ shapeLoop m (l ++ [62]) r e0 e1 e2 = none) ∨
 (∃ es l2, extsR m l ([e0, e1, e2].take r) = some (es, l2) ∧ l2.head? = some 120 ∧ shapeLoop m (l ++ [62]) r e0 e1 e2 = none) ∨
 (∃ r' x0 x1 x2 l2, r' ≤ 3 ∧ extsR m l ([e0, e1, e2].take r) = some ([x0, x1, x2].take r', l2) ∧ shapeLoop m (l ++ [62]) r e0 e1 e2 = some (r', x0, x1, x2, l2 ++ [62]))
theorem take_next {r : Nat} {e0 e1 e2 v : Int} (hr : r < 3) : [e0, e1, e2].take r ++ [v] = [if r = 0 then v else e0, if r = 1 then v else e1, if r = 2 then v else e2].take (r + 1) := by
 rcases (show r = 0 ∨ r = 1 ∨ r = 2 by omega) with rfl | rfl | rfl <;> rfl
theorem paired : ∀ (m : Nat) (l : List UInt8) (r : Nat) (e0 e1 e2 : Int), m + r = 3 → Paired l m r e0 e1 e2 := by
 intro m
 induction m with
 | zero =>
  intro l r e0 e1 e2 hr
  have hs := tw_snoc (p := bDigit) (c := 62) (by decide) l
  unfold Paired
  rw [extsR_eq, shapeLoop_eq, hs.1, hs.2]
  by_cases hd : l.takeWhile bDigit = []
  ·rw [if_pos ((headDigit_iff l).2 hd), if_pos hd, tw_nil hd]
   exact .inr (.inr ⟨r, e0, e1, e2, l, by omega, rfl, rfl⟩)
  ·rw [if_neg (fun h => hd ((headDigit_iff l).1 h)), if_neg hd]
   refine .inl ⟨?_, ?_⟩ <;> simp only [ite_self]
 | succ m ih =>
  intro l r e0 e1 e2 hr
  have hs := tw_snoc (p := bDigit) (c := 62) (by decide) l
  unfold Paired
  rw [extsR_eq, shapeLoop_eq, hs.1, hs.2]
  by_cases hd : l.takeWhile bDigit = []
  ·rw [if_pos ((headDigit_iff l).2 hd), if_pos hd, tw_nil hd]
   exact .inr (.inr ⟨r, e0, e1, e2, l, by omega, rfl, rfl⟩)
  ·rw [if_neg (fun h => hd ((headDigit_iff l).1 h)), if_neg hd]
   have hD := tw_is_all (p := bDigit) l
   have hns : numSpec (l.takeWhile bDigit) 0 1000 = if (numR (l.takeWhile bDigit) 1000).2 = true ∧ 0 ≤ (numR (l.takeWhile bDigit) 1000).1 then (((numR (l.takeWhile bDigit) 1000).1 : Int), true) else (0, false) :=
    numSpec_numR hD 0 1000 (by decide)
   have hcat := tw_dw (p := bDigit) l
   obtain ⟨a1, a2⟩ := tw_append (p := notX) (m := l.dropWhile bDigit) (all_imp hD digit_notX)
   rw [hcat] at a1 a2
   generalize hDD : l.takeWhile bDigit = D at *
   cases hR : l.dropWhile bDigit with
   | nil =>
    rw [hR] at a1 a2
    refine .inl ⟨?_, ?_⟩
    ·rw [if_pos (.inr (by rw [a2]; rfl))]
    ·rw [if_pos (c := ¬ _) (by decide), ite_self]
   | cons c R =>
    rw [hR] at a1 a2
    by_cases hc : c = 120
    ·subst hc
     have hx : notX 120 = false := by decide
     simp only [List.takeWhile_cons, List.dropWhile_cons, hx, Bool.false_eq_true, if_false, List.append_nil] at a1 a2
     rw [a1, a2, hns]
     cases hn : (numR D 1000).2
     ·simp only [Bool.false_eq_true, false_and, if_false, if_true, true_or]
      exact .inl ⟨trivial, trivial⟩
     ·simp only [Bool.true_eq_false, true_and, Nat.zero_le, if_true, if_false, false_or, reduceCtorEq, List.tail_cons]
      by_cases hR120 : R.head? = some 120
      ·obtain ⟨R', rfl⟩ : ∃ R', R = 120 :: R' := by
        cases R with
        | nil => cases hR120
        | cons a R' => rw [List.head?_cons] at hR120; cases hR120; exact ⟨R', rfl⟩
       refine .inr (.inl ⟨[e0, e1, e2].take r ++ [((numR D 1000).1 : Int)], 120 :: R', ?_, rfl, ?_⟩)
       ·rw [extsR_eq, if_pos (show headDigit (120 :: R') = false from (by decide : bDigit 120 = false))]
       ·rw [if_pos]
        simp [show bIs 120 120 = true by decide]
      ·have hrun : ((120 :: R) ++ [62]).takeWhile (bIs 120) = [120] ∧ ((120 :: R) ++ [62]).dropWhile (bIs 120) = R ++ [62] := by
        cases R with
        | nil => exact ⟨by decide, by decide⟩
        | cons a R' =>
         have ha : bIs 120 a = false := by
          cases hb : bIs 120 a
          ·rfl
          ·exact absurd (congrArg some ((is_iff (x := 120) (by decide) a).1 hb)) (by simpa using hR120)
         simp [show bIs 120 120 = true by decide, ha]
       rw [hrun.1, hrun.2, if_neg (fun h => h rfl), take_next (by omega)]
       exact ih R (r + 1) _ _ _ (by omega)
    ·have hcd : bDigit c = false := dw_head hR
     refine .inl ⟨?_, ?_⟩
     ·have hcx : notX c = true := by
       unfold notX
       cases hb : bIs 120 c
       ·rfl
       ·exact absurd ((is_iff (x := 120) (by decide) c).1 hb) hc
      exact if_pos (.inl (numR_false (by rw [a1]; simp [hcx, hcd])))
     ·have : ((c :: R) ++ [62]).takeWhile (bIs 120) = [] := by
       have hb : bIs 120 c = false := by
        cases hb : bIs 120 c
        ·rfl
        ·exact absurd ((is_iff (x := 120) (by decide) c).1 hb) hc
       simp [hb]
      rw [this, if_pos (c := ¬ _) (by decide), ite_self]
theorem loop_suffix : ∀ (m : Nat) (l : List UInt8) (r : Nat) (e0 e1 e2 : Int) (r' : Nat) (x0 x1 x2 : Int) (l2 : List UInt8), shapeLoop m l r e0 e1 e2 = some (r', x0, x1, x2, l2) → ∃ pre, l = pre ++ l2 := by
 intro m
 induction m with
 | zero =>
  intro l r e0 e1 e2 r' x0 x1 x2 l2 h
  rw [shapeLoop_eq] at h
  split at h
  ·injection h with h
   injection h with _ h
   injection h with _ h
   injection h with _ h
   injection h with _ h
   exact ⟨_, by rw [← h]; exact (tw_dw l).symm⟩
  ·split at h
   ·cases h
   ·split at h <;> cases h
 | succ m ih =>
  intro l r e0 e1 e2 r' x0 x1 x2 l2 h
  rw [shapeLoop_eq] at h
  split at h
  ·injection h with h
   injection h with _ h
   injection h with _ h
   injection h with _ h
   injection h with _ h
   exact ⟨_, by rw [← h]; exact (tw_dw l).symm⟩
  ·split at h
   ·cases h
   ·split at h
    ·cases h
    ·obtain ⟨pre, hp⟩ := ih _ _ _ _ _ _ _ _ _ _ h
     refine ⟨l.takeWhile bDigit ++ ((l.dropWhile bDigit).takeWhile (bIs 120) ++ pre), ?_⟩
     rw [List.append_assoc, List.append_assoc, ← hp, tw_dw, tw_dw]
theorem exts_len : ∀ (m : Nat) (l : List UInt8) (es es' : List Int) (l2 : List UInt8), extsR m l es = some (es', l2) → l.length ≤ 10 * m + l2.length := by
 intro m
 induction m with
 | zero =>
  intro l es es' l2 h
  rw [extsR_eq] at h
  split at h
  ·injection h with h
   injection h with _ h
   rw [h]; omega
  ·split at h <;> cases h
 | succ m ih =>
  intro l es es' l2 h
  rw [extsR_eq] at h
  split at h
  ·injection h with h
   injection h with _ h
   rw [h]; omega
  ·split at h
   ·cases h
   ·rename_i hc
    have h2 := ih _ _ _ _ h
    have h1 := congrArg List.length (tw_dw (p := notX) l)
    rw [List.length_append] at h1
    have h9 : (l.takeWhile notX).length ≤ 9 := by
     cases hn : (numR (l.takeWhile notX) 1000).2
     ·exact absurd (.inl hn) hc
     ·exact (numR_yes hn).2.2.1
    have ht : (l.dropWhile notX).tail.length = (l.dropWhile notX).length - 1 := List.length_tail
    omega
theorem number_len {l : List UInt8} (h : (numberR l).2.2 = true) : l.length ≤ 10 ∧ l.all bPart = true := by
 unfold numberR at h
 split at h
 ·rename_i hi
  rw [hi]
  exact ⟨by decide, by decide⟩
 ·split at h
  ·rename_i hh
   simp only [Bool.and_eq_true] at h
   obtain ⟨a1, _, a3, _⟩ := numR_yes h.1
   cases l with
   | nil => cases hh
   | cons c t =>
    rw [List.head?_cons] at hh
    cases hh
    rw [List.tail_cons] at a1 a3
    refine ⟨by simp only [List.length_cons]; omega, ?_⟩
    rw [List.all_cons, Bool.and_eq_true]
    exact ⟨by decide, all_imp a1 (fun c hc => (part_iff c).2 (.inr (.inl ((digit_iff c).1 hc))))⟩
  ·cases h
theorem number_head {l : List UInt8} (h : l.head? ≠ some 105) : numberR l = (0, false, false) := by
 unfold numberR
 rw [if_neg (fun e => h (by rw [e]; rfl)), if_neg h]
abbrev memW : List UInt8 := [109, 101, 109, 60]
abbrev arrW : List UInt8 := [97, 114, 114, 60]
def prodL (es : List Int) : Int := es.foldl (· * ·) 1
theorem prodL_take {r : Nat} {e0 e1 e2 : Int} (h : r ≤ 3) : prodL ([e0, e1, e2].take r) = prodN r e0 e1 e2 := by
 rcases (show r = 0 ∨ r = 1 ∨ r = 2 ∨ r = 3 by omega) with rfl | rfl | rfl | rfl <;> simp [prodL, prodN]
def readR (l : List UInt8) : Option (Int × Int × List Int × List UInt8) :=
 if (numberR l).2.2 = true then some (if (numberR l).2.1 = true then 1 else 0, ((numberR l).1 : Int), [], [])
 else if 1 < l.length ∧ l.head? = some 33 then (if isPairR l.tail 59 = true then some (4, 0, [], []) else none)
 else if l.length < 5 ∨ (l.take 4 ≠ memW ∧ l.take 4 ≠ arrW) ∨ l.getLast? ≠ some 62 then none
 else match extsR 3 ((l.drop 4).dropLast) [] with
  | none => none
  | some (es, l2) => if (numberR l2).2.2 = true ∧ prodL es ≤ 4096 then some (if l.take 4 = arrW then 3 else 2, 0, es, l2) else none
def Agree (l : List UInt8) (z : Option (Int × Int × List Int × List UInt8)) : Prop :=
 (z = none ∧ descSpec l = descZero) ∨ ∃ k b r e0 e1 e2 el, r ≤ 3 ∧ z = some (k, b, [e0, e1, e2].take r, el) ∧ descSpec l = ⟨k, b, r, e0, e1, e2, el⟩ ∧ ¬ (k = 0 ∧ b = 0)
theorem shape_ends {l : List UInt8} {r : Nat} {x0 x1 x2 : Int} {el : List UInt8} (h : shapeSpec (60 :: l) = some (r, x0, x1, x2, el, [])) : ∃ inner, l = inner ++ [62] := by
 unfold shapeSpec at h
 split at h
 ·cases h
 rename_i hrun
 obtain ⟨t, ht, _, hdt⟩ := (run_iff (x := 60) (by decide) _).1 (Decidable.not_not.1 hrun)
 injection ht with _ ht
 subst ht
 rw [hdt] at h
 split at h
 ·cases h
 rename_i hl
 obtain ⟨pre, hp⟩ := loop_suffix _ _ _ _ _ _ _ _ _ _ _ hl
 rename_i l2
 split at h
 ·cases h
 split at h
 ·cases h
 rename_i hgt
 obtain ⟨t2, ht2, _, hdt2⟩ := (run_iff (x := 62) (by decide) _).1 (Decidable.not_not.1 hgt)
 split at h
 ·injection h with h
  injection h with _ h
  injection h with _ h
  injection h with _ h
  injection h with _ h
  injection h with _ h
  rw [hdt2] at h
  subst h
  refine ⟨pre ++ l2.takeWhile bPart, ?_⟩
  rw [hp, List.append_assoc, ← ht2, tw_dw]
 ·cases h
theorem agree_none {l : List UInt8} {z : Option (Int × Int × List Int × List UInt8)} (hz : z = none) (h : descSpec l = descZero) : Agree l z := .inl ⟨hz, h⟩
theorem last_cons {a : UInt8} {l : List UInt8} (h : l ≠ []) : (a :: l).getLast? = l.getLast? := by
 cases l with
 | nil => exact absurd rfl h
 | cons b l => rw [List.getLast?_cons_cons]
theorem last_is {l : List UInt8} (h : l.getLast? = some 62) : ∃ inner, l = inner ++ [62] := List.getLast?_eq_some_iff.1 h
theorem desc_shape {l r : List UInt8} {k : Int} (hk : kindSpec l = (k, true, 60 :: r)) (h23 : k = 2 ∨ k = 3) : descSpec l = if 60 < l.length then descZero else
  match shapeSpec (60 :: r) with
  | some (n, e0, e1, e2, el, q) => if q = [] then ⟨k, 0, n, e0, e1, e2, el⟩ else descZero
  | none => descZero := by
 rw [descSpec, hk]
 have h1 : ¬ k = 1 := by omega
 simp only [Bool.true_eq_false, if_false, h1, h23, if_true]
 rfl
theorem agree_shape {l inner : List UInt8} {k : Int} (hk : kindSpec l = (k, true, 60 :: (inner ++ [62]))) (h23 : k = 2 ∨ k = 3) (hlen : l.length = inner.length + 5) :
  Agree l (match extsR 3 inner [] with
   | none => none
   | some (es, l2) => if (numberR l2).2.2 = true ∧ prodL es ≤ 4096 then some (k, 0, es, l2) else none) := by
 have hd := desc_shape hk h23
 have hz : (shapeSpec (60 :: (inner ++ [62])) = none ∨ ∃ n e0 e1 e2 el q, shapeSpec (60 :: (inner ++ [62])) = some (n, e0, e1, e2, el, q) ∧ q ≠ []) → descSpec l = descZero := by
  intro h
  rw [hd]
  split
  ·rfl
  ·rcases h with h | ⟨n, e0, e1, e2, el, q, h, hq⟩
   ·rw [h]
   ·rw [h]
    simp only [hq, if_false]
 have hp := paired 3 inner 0 0 0 0 rfl
 unfold Paired at hp
 rw [List.take_zero] at hp
 by_cases h60 : inner.head? = some 60
 ·obtain ⟨t, rfl⟩ : ∃ t, inner = 60 :: t := by
   cases inner with
   | nil => cases h60
   | cons a t => rw [List.head?_cons] at h60; cases h60; exact ⟨t, rfl⟩
  have he : extsR 3 (60 :: t) [] = some ([], 60 :: t) := by rw [extsR_eq, if_pos (show headDigit (60 :: t) = false from (by decide : bDigit 60 = false))]
  rw [he]
  dsimp only
  rw [number_head (by simp)]
  refine agree_none (by simp) (hz (.inl ?_))
  unfold shapeSpec
  rw [if_pos]
  intro h
  obtain ⟨t', ht, hh, _⟩ := (run_iff (x := 60) (by decide) _).1 h
  injection ht with _ ht
  rw [← ht] at hh
  exact hh rfl
 ·have hrun : (60 :: (inner ++ [62])).takeWhile (bIs 60) = [60] ∧ (60 :: (inner ++ [62])).dropWhile (bIs 60) = inner ++ [62] := by
   cases inner with
   | nil => exact ⟨by decide, by decide⟩
   | cons a t =>
    have ha : bIs 60 a = false := by
     cases hb : bIs 60 a
     ·rfl
     ·exact absurd (congrArg some ((is_iff (x := 60) (by decide) a).1 hb)) (by simpa using h60)
    simp [show bIs 60 60 = true by decide, ha]
  have hs : ∀ z, shapeLoop 3 (inner ++ [62]) 0 0 0 0 = z → shapeSpec (60 :: (inner ++ [62])) = match z with
    | none => none
    | some (r, e0, e1, e2, l2) =>
     if numB (l2.takeWhile bPart) = false then none
     else if ¬ (l2.dropWhile bPart).takeWhile (bIs 62) = [62] then none
     else if prodN r e0 e1 e2 ≤ 4096 then some (r, e0, e1, e2, l2.takeWhile bPart, (l2.dropWhile bPart).dropWhile (bIs 62))
     else none := by
   intro z hz
   subst hz
   unfold shapeSpec
   rw [if_neg (fun h => h hrun.1), hrun.2]
   rfl
  rcases hp with ⟨he, hl⟩ | ⟨es, l2, he, hh, hl⟩ | ⟨n, x0, x1, x2, l2, hn, he, hl⟩
  ·rw [he]
   exact agree_none rfl (hz (.inl (hs _ hl)))
  ·rw [he]
   dsimp only
   rw [number_head (by rw [hh]; decide)]
   exact agree_none (by simp) (hz (.inl (hs _ hl)))
  ·have hsz := hs _ hl
   have hsn := tw_snoc (p := bPart) (c := 62) (by decide) l2
   simp only [hsn.1, hsn.2] at hsz
   rw [he]
   simp only [prodL_take hn]
   by_cases hnum : (numberR l2).2.2 = true
   ·have hlen2 := exts_len _ _ _ _ _ he
    obtain ⟨h10, hpart⟩ := number_len hnum
    obtain ⟨ha, hb⟩ := tw_all hpart
    have hr62 : ([] ++ [62] : List UInt8).takeWhile (bIs 62) = [62] ∧ ([] ++ [62] : List UInt8).dropWhile (bIs 62) = [] := ⟨by decide, by decide⟩
    rw [ha, hb, numB_numberR, hnum, hr62.1, hr62.2, if_neg (by decide), if_neg (fun h => h rfl)] at hsz
    by_cases hpr : prodN n x0 x1 x2 ≤ 4096
    ·rw [if_pos ⟨hnum, hpr⟩]
     rw [if_pos hpr] at hsz
     refine .inr ⟨k, 0, n, x0, x1, x2, l2, hn, rfl, ?_, by omega⟩
     rw [hd, if_neg (by omega), hsz]
     rfl
    ·rw [if_neg (fun h => hpr h.2)]
     rw [if_neg hpr] at hsz
     exact agree_none rfl (hz (.inl hsz))
   ·rw [if_neg (fun h => hnum h.1)]
    refine agree_none rfl (hz ?_)
    by_cases hB : numB (l2.takeWhile bPart) = false
    ·rw [if_pos hB] at hsz
     exact .inl hsz
    rw [if_neg hB] at hsz
    by_cases hG : (l2.dropWhile bPart ++ [62]).takeWhile (bIs 62) = [62]
    ·rw [if_neg (fun h => h hG)] at hsz
     by_cases hpr : prodN n x0 x1 x2 ≤ 4096
     ·rw [if_pos hpr] at hsz
      refine .inr ⟨_, _, _, _, _, _, hsz, fun hq => ?_⟩
      obtain ⟨t, ht, _, hdt⟩ := (run_iff (x := 62) (by decide) _).1 hG
      rw [hq] at hdt
      subst hdt
      have h0 : l2.dropWhile bPart = [] := by
       have := congrArg List.length ht
       simp only [List.length_append, List.length_cons, List.length_nil] at this
       exact List.eq_nil_of_length_eq_zero (by omega)
      rw [(tw_all (dw_nil_all h0)).1, numB_numberR] at hB
      exact hnum (by simpa using hB)
     ·rw [if_neg hpr] at hsz
      exact .inl hsz
    ·rw [if_pos hG] at hsz
     exact .inl hsz
theorem word_kind {W r : List UInt8} (hW : W = [97, 114, 114] ∨ W = [109, 101, 109]) : kindSpec (W ++ 60 :: r) = (kindNum W, true, 60 :: r) := by
 have h60 : bLetter 60 = false := by decide
 rcases hW with rfl | rfl
 ·simp [kindSpec, h60, show bLetter 97 = true by decide, show bLetter 114 = true by decide, kindOk]
 ·simp [kindSpec, h60, show bLetter 109 = true by decide, show bLetter 101 = true by decide, kindOk]
set_option maxRecDepth 10000 in
theorem agree (l : List UInt8) : Agree l (readR l) := by
 cases l with
 | nil => exact agree_none (by decide) (by kernel_rfl)
 | cons c t =>
  by_cases h105 : c = 105
  ·subst h105
   have hd := desc_i t
   by_cases hn : (numberR (105 :: t)).2.2 = true
   ·rw [if_pos hn] at hd
    refine .inr ⟨_, _, 0, 0, 0, 0, [], by omega, by rw [readR, if_pos hn]; rfl, hd, ?_⟩
    rintro ⟨h1, h2⟩
    have hb := numB_numberR (105 :: t)
    rw [hn, desc_num hd, h2] at hb
    exact absurd hb (by decide)
   ·rw [if_neg hn] at hd
    refine agree_none ?_ hd
    rw [readR, if_neg hn, if_neg (by simp), if_pos]
    refine .inr (.inl ⟨?_, ?_⟩) <;> intro h <;> rw [List.take_succ_cons] at h <;> cases h
  have hn : numberR (c :: t) = (0, false, false) := number_head (by simpa using h105)
  by_cases h33 : c = 33
  ·subst h33
   have hd := desc_f t
   cases t with
   | nil => exact agree_none (by decide) (by kernel_rfl)
   | cons a t =>
    by_cases hp : isPairR (a :: t) 59 = true
    ·rw [if_pos hp] at hd
     refine .inr ⟨4, 0, 0, 0, 0, 0, [], by omega, ?_, hd, by omega⟩
     rw [readR, hn, if_neg (by decide), if_pos ⟨by simp, rfl⟩, List.tail_cons, if_pos hp]
     rfl
    ·rw [if_neg hp] at hd
     refine agree_none ?_ hd
     rw [readR, hn, if_neg (by decide), if_pos ⟨by simp, rfl⟩, List.tail_cons, if_neg hp]
  have hr : readR (c :: t) = (if (c :: t).length < 5 ∨ ((c :: t).take 4 ≠ memW ∧ (c :: t).take 4 ≠ arrW) ∨ (c :: t).getLast? ≠ some 62 then none
    else match extsR 3 (((c :: t).drop 4).dropLast) [] with
     | none => none
     | some (es, l2) => if (numberR l2).2.2 = true ∧ prodL es ≤ 4096 then some (if (c :: t).take 4 = arrW then 3 else 2, 0, es, l2) else none : Option (Int × Int × List Int × List UInt8)) := by
   rw [readR, hn, if_neg (by decide), if_neg (by simpa using fun _ => h33)]
  rw [hr]
  have word : ∀ W : List UInt8, W = [97, 114, 114] ∨ W = [109, 101, 109] → (c :: t).take 4 = W ++ [60] → ∃ r, c :: t = W ++ 60 :: r := by
   intro W hW h
   refine ⟨(c :: t).drop 4, ?_⟩
   rw [show W ++ 60 :: (c :: t).drop 4 = W ++ [60] ++ (c :: t).drop 4 by simp, ← h, List.take_append_drop]
  have main : ∀ (W r : List UInt8), (W = [97, 114, 114] ∨ W = [109, 101, 109]) → c :: t = W ++ 60 :: r →
    Agree (c :: t) (if (c :: t).length < 5 ∨ ((c :: t).take 4 ≠ memW ∧ (c :: t).take 4 ≠ arrW) ∨ (c :: t).getLast? ≠ some 62 then none
    else match extsR 3 (((c :: t).drop 4).dropLast) [] with
     | none => none
     | some (es, l2) => if (numberR l2).2.2 = true ∧ prodL es ≤ 4096 then some (if (c :: t).take 4 = arrW then 3 else 2, 0, es, l2) else none) := by
   intro W r hW hl
   have hk := word_kind (r := r) hW
   rw [← hl] at hk
   have h23 : kindNum W = 2 ∨ kindNum W = 3 := by rcases hW with rfl | rfl <;> decide
   have h3 : W.length = 3 := by rcases hW with rfl | rfl <;> rfl
   have htk : (c :: t).take 4 = W ++ [60] := by
    rw [hl, show W ++ 60 :: r = (W ++ [60]) ++ r by simp, List.take_append_of_le_length (by simp [h3]), List.take_of_length_le (by simp [h3])]
   have hdr : (c :: t).drop 4 = r := by
    rw [hl, show W ++ 60 :: r = (W ++ [60]) ++ r by simp, List.drop_append_of_le_length (by simp [h3]), List.drop_of_length_le (by simp [h3]), List.nil_append]
   by_cases hlast : r.getLast? = some 62
   ·obtain ⟨inner, rfl⟩ := last_is hlast
    have hlen : (c :: t).length = inner.length + 5 := by rw [hl]; simp [h3]; omega
    have hg : (c :: t).getLast? = some 62 := by rw [hl, show W ++ 60 :: (inner ++ [62]) = (W ++ 60 :: inner) ++ [62] by simp, List.getLast?_concat]
    rw [if_neg, hdr, List.dropLast_concat]
    ·have := agree_shape hk h23 hlen
     have hkn : (if (c :: t).take 4 = arrW then (3 : Int) else 2) = kindNum W := by
      rw [htk]
      rcases hW with rfl | rfl <;> decide
     rw [hkn]
     exact this
    ·rintro (h | ⟨h1, h2⟩ | h)
     ·omega
     ·rw [htk] at h1 h2
      rcases hW with rfl | rfl
      ·exact h2 rfl
      ·exact h1 rfl
     ·exact h hg
   ·rw [if_pos]
    ·refine agree_none rfl ?_
     rw [desc_shape hk h23]
     split
     ·rfl
     ·split
      ·rename_i hz
       split
       ·rename_i hq
        subst hq
        obtain ⟨inner, hi⟩ := shape_ends hz
        exact absurd (by rw [hi, List.getLast?_concat]) hlast
       ·rfl
      ·rfl
    ·by_cases hr0 : r = []
     ·refine .inl ?_
      rw [hl, hr0]
      simp [h3]
     ·refine .inr (.inr fun h => hlast ?_)
      rw [hl] at h
      rw [← h, List.getLast?_append]
      rw [last_cons hr0]
      cases hg : r.getLast? with
      | none => exact absurd (List.getLast?_eq_none_iff.1 hg) hr0
      | some x => rfl
  by_cases hm : (c :: t).take 4 = memW
  ·obtain ⟨r, hl⟩ := word [109, 101, 109] (.inr rfl) hm
   exact main _ r (.inr rfl) hl
  by_cases ha : (c :: t).take 4 = arrW
  ·obtain ⟨r, hl⟩ := word [97, 114, 114] (.inl rfl) ha
   exact main _ r (.inl rfl) hl
  rw [if_pos (.inr (.inl ⟨hm, ha⟩))]
  refine agree_none rfl ?_
  cases hk : (kindSpec (c :: t)).2.1
  ·exact desc_none hk
  ·rcases kind_cases hk with ⟨_, hrun, _⟩ | ⟨W, hW, h4, he⟩
   ·obtain ⟨r, hr, _⟩ := (run_iff (x := 33) (by decide) _).1 hrun
    injection hr with hr _
    exact absurd hr h33
   ·have hcat := tw_dw (p := bLetter) (c :: t)
    rw [hW] at hcat
    have shape : (W = [97, 114, 114] ∨ W = [109, 101, 109]) → descSpec (c :: t) = descZero := by
     intro hW2
     have h23 : kindNum W = 2 ∨ kindNum W = 3 := by rcases hW2 with rfl | rfl <;> decide
     have h1 : ¬ kindNum W = 1 := by omega
     rw [descSpec, he]
     simp only [Bool.true_eq_false, if_false, h1, h23, if_true]
     have hs : shapeSpec ((c :: t).dropWhile bLetter) = none := by
      unfold shapeSpec
      rw [if_pos]
      intro h
      obtain ⟨r, hr, _⟩ := (run_iff (x := 60) (by decide) _).1 h
      rw [hr] at hcat
      rcases hW2 with rfl | rfl
      ·exact ha (by rw [← hcat]; rfl)
      ·exact hm (by rw [← hcat]; rfl)
     rw [hs]
     simp only [ite_self]
    rcases h4 with h | h | h | h
    ·exact shape (.inl h)
    ·rw [h] at hcat
     injection hcat with hcat _
     exact absurd hcat.symm h105
    ·rw [h] at hcat
     injection hcat with hcat _
     exact absurd hcat.symm h105
    ·exact shape (.inr h)
end Go.Proofs.YtgimdkgjfenafaaGreatDoor
namespace Go.Proofs.YtgimdkgjfenafaaGreatDoor
open Go.RowKit
theorem dval_snoc (n : Nat) (l : List UInt8) (c : UInt8) : dvalFrom n (l ++ [c]) = 10 * dvalFrom n l + (c.toNat - 48) := by
 unfold dvalFrom
 rw [List.foldl_append, List.foldl_cons, List.foldl_nil]
theorem dval_lt : ∀ (l : List UInt8) (n : Nat), l.all bDigit = true → dvalFrom n l < (n + 1) * 10 ^ l.length
 | [], n, _ => by simp [dvalFrom]
 | c :: l, n, h => by
  rw [List.all_cons, Bool.and_eq_true] at h
  have hd := (digit_iff c).1 h.1
  rw [dval_cons, List.length_cons, Nat.pow_succ]
  have ih := dval_lt l (10 * n + (c.toNat - 48)) h.2
  generalize 10 ^ l.length = P at ih ⊢
  have h2 : (10 * n + (c.toNat - 48) + 1) * P ≤ (10 * (n + 1)) * P := Nat.mul_le_mul_right _ (by omega)
  have h3 : (n + 1) * (P * 10) = 10 * (n + 1) * P := by rw [Nat.mul_comm P, ← Nat.mul_assoc, Nat.mul_comm (n + 1)]
  omega
theorem take_snoc {l : List UInt8} {m : Nat} (h : m < l.length) : l.take (m + 1) = l.take m ++ [l[m]] := by
 rw [List.take_add_one, List.getElem?_eq_getElem h]; rfl
theorem all_snoc {p : UInt8 → Bool} {l : List UInt8} {c : UInt8} : (l ++ [c]).all p = (l.all p && p c) := by simp
def SoFar (l : List UInt8) (m : Nat) (n : Nat) : Prop := (l.take m).all bDigit = true ∧ n = dvalFrom 0 (l.take m) ∧ n < 1000000000
theorem soFar_next {s : ByteArray} {m n : Nat} (h9 : s.size ≤ 9) (h : SoFar s.data.toList m n) (hm : m < s.size) (hd : 48 ≤ (s[m]'hm).toNat ∧ (s[m]'hm).toNat ≤ 57) : SoFar s.data.toList (m + 1) (10 * n + ((s[m]'hm).toNat - 48)) := by
 obtain ⟨h1, h2, _⟩ := h
 have hl : m < s.data.toList.length := by simpa using hm
 have hc : bDigit (s.data.toList[m]'hl) = true := (digit_iff _).2 hd
 have ha : (s.data.toList.take (m + 1)).all bDigit = true := by rw [take_snoc hl, all_snoc, h1, hc]; rfl
 have hv : 10 * n + ((s[m]'hm).toNat - 48) = dvalFrom 0 (s.data.toList.take (m + 1)) := by rw [take_snoc hl, dval_snoc, ← h2]; rfl
 refine ⟨ha, hv, ?_⟩
 have := dval_lt _ 0 ha
 have hlen : (s.data.toList.take (m + 1)).length ≤ 9 := by rw [List.length_take]; simp; omega
 have hp : 10 ^ (s.data.toList.take (m + 1)).length ≤ 10 ^ 9 := Nat.pow_le_pow_right (by decide) hlen
 have h99 : (10 : Nat) ^ 9 = 1000000000 := by decide
 omega
def NumRPost (s : ByteArray) (most : Nat) (w : World) (e : Ending) (w' : World) : Prop :=
 e = .returned (.tuple #[.int .i64 (numR s.data.toList most).1, .bool (numR s.data.toList most).2]) ∧ w = w'
theorem numRPost_of {s : ByteArray} {most n : Nat} {v : Int} {ok : Bool} {w : World} (h : numR s.data.toList most = (n, ok)) (hv : v = n) : NumRPost s most w (.returned (.tuple #[.int .i64 v, .bool ok])) w := ⟨by rw [h, hv], rfl⟩
theorem numRPost_bad {s : ByteArray} {most m : Nat} {w : World} (hs : numR s.data.toList most = if s.data.toList.all bDigit = true then (dvalFrom 0 s.data.toList, decide (dvalFrom 0 s.data.toList ≤ most)) else (0, false))
  (hm : m < s.size) (hd : ¬ (48 ≤ (s[m]'hm).toNat ∧ (s[m]'hm).toNat ≤ 57)) : NumRPost s most w (.returned (.tuple #[.int .i64 0, .bool false])) w := by
 refine numRPost_of (hs.trans (if_neg fun h => hd ?_)) rfl
 rw [List.all_eq_true] at h
 exact (digit_iff _).1 (h _ (List.getElem_mem (show m < s.data.toList.length by simpa using hm)))
theorem numRPost_end {s : ByteArray} {most n : Nat} {w : World} (hs : numR s.data.toList most = if s.data.toList.all bDigit = true then (dvalFrom 0 s.data.toList, decide (dvalFrom 0 s.data.toList ≤ most)) else (0, false))
  (h : SoFar s.data.toList s.size n) : NumRPost s most w (.returned (.tuple #[.int .i64 n, .bool (decide (n ≤ most))])) w := by
 obtain ⟨h1, h2, _⟩ := h
 rw [List.take_of_length_le (by simp)] at h1 h2
 rw [if_pos h1, ← h2] at hs
 exact ⟨by rw [hs], rfl⟩
set_option maxHeartbeats 1000000 in
set_option maxRecDepth 100000 in
theorem Num_any (s : ByteArray) (most : Nat) (w : World) :
  Calls Tryz.prog 138 #[.string s, .int .i64 most] w (NumRPost s most w) := by
 cases h0 : s.toList.isEmpty
 ·have hne := nonempty_of h0
  by_cases h9 : 9 < s.size
  ·have hs := Lib.hid (numR_no (m := most) (.inr (.inl (show 9 < s.data.toList.length by simpa using h9))))
   clear hne
   go_enter Tryz.func138, Tryz.ntmps138
   go_wp2_with fail
   go_ret2
   exact numRPost_of hs.out rfl
  ·have part : (1 < s.size ∧ ∃ h : 0 < s.size, (((s[0]'h).toNat : Int) == 48) = true) ∨ ((1 < s.size ∧ ∃ h : 0 < s.size, (((s[0]'h).toNat : Int) == 48) = false) ∨ ¬ 1 < s.size) := by
    by_cases h1 : 1 < s.size
    ·cases hz : (((s[0]'(by omega)).toNat : Int) == 48)
     ·exact .inr (.inl ⟨h1, by omega, hz⟩)
     ·exact .inl ⟨h1, by omega, hz⟩
    ·exact .inr (.inr h1)
   have hlead : ∀ h : 0 < s.size, (((s[0]'h).toNat : Int) == 48) = true ↔ s.data.toList.head? = some 48 := by
    intro h
    rw [head_at s h, beq_iff_eq]
    constructor
    ·intro e
     exact congrArg some (UInt8.toNat_inj.1 (by simpa using (by omega : (s[0]'h).toNat = 48)))
    ·intro e
     have : s[0]'h = 48 := Option.some.inj e
     rw [this]; rfl
   rcases part with ⟨h1, hp, hz⟩ | hrest
   ·have hs := Lib.hid (numR_no (m := most) (.inr (.inr ⟨(show 1 < s.data.toList.length by simpa using h1), (hlead hp).1 hz⟩)))
    clear hne hlead
    go_enter Tryz.func138, Tryz.ntmps138
    go_wp2_with fail
    go_ret2
    exact numRPost_of hs.out rfl
   ·have hc : ¬ (s.data.toList = [] ∨ 9 < s.data.toList.length ∨ (1 < s.data.toList.length ∧ s.data.toList.head? = some 48)) := by
     rintro (h | h | ⟨h, h'⟩)
     ·exact hne h
     ·exact h9 (by simpa using h)
     ·rcases hrest with ⟨_, hp, hz⟩ | h1
      ·rw [(hlead hp).2 h'] at hz; cases hz
      ·exact h1 (by simpa using h)
    have hs := Lib.hid (show numR s.data.toList most = if s.data.toList.all bDigit = true then (dvalFrom 0 s.data.toList, decide (dvalFrom 0 s.data.toList ≤ most)) else (0, false) by rw [numR, if_neg hc])
    clear hne hlead hc
    rcases hrest with ⟨h1, hp, hz⟩ | h1
    all_goals
     go_enter Tryz.func138, Tryz.ntmps138
     go_wp2_with fail
     go_loopw [6, 7] (fun n i wr => ∃ m n' : Nat, m ≤ s.size ∧ n = .int .i64 n' ∧ i = .int .i64 m ∧ SoFar s.data.toList m n' ∧ wr = w) (fun _ i _ => s.size - (intOf i).toNat)
     case atStart => exact ⟨0, 0, Nat.zero_le _, rfl, rfl, ⟨rfl, rfl, by omega⟩, rfl⟩
     case round =>
      obtain ⟨m, n', hms, rfl, rfl, hso, rfl⟩ := hrel
      have HS := Lib.hid hso
      have hn9 := hso.2.2
      clear hso
      by_cases hlt : m < s.size
      ·have hb := (s[m]'hlt).toNat_lt
       by_cases hlo : (s[m]'hlt).toNat < 48
       ·go_wp2_with fail
        go_ret2
        exact numRPost_bad hs.out hlt (by omega)
       ·by_cases hhi : 57 < (s[m]'hlt).toNat
        ·go_wp2_with fail
         go_ret2
         exact numRPost_bad hs.out hlt (by omega)
        ·go_wp2_with fail
         go_roundw
         case rel => exact ⟨m + 1, 10 * n' + ((s[m]'hlt).toNat - 48), by omega, by go_num, by go_num, soFar_next (by omega) HS.out hlt (by omega), trivial⟩
         case measure => simp [intOf]; omega
      ·obtain rfl : m = s.size := by omega
       go_wp2_with fail
       go_ret2
       exact numRPost_end hs.out HS.out
 ·have hs := Lib.hid (numR_no (m := most) (.inl (empty_of h0)))
  go_enter Tryz.func138, Tryz.ntmps138
  go_wp2_with fail
  go_ret2
  exact numRPost_of hs.out rfl
theorem Num_64 (s : ByteArray) (w : World) : Calls Tryz.prog 138 #[.string s, .int .i64 64] w fun e w' => ∃ (n : Nat) (ok : Bool), e = .returned (.tuple #[.int .i64 n, .bool ok]) ∧ numR s.data.toList 64 = (n, ok) ∧ w = w' :=
 (Num_any s 64 w).mono fun _ _ ⟨he, hw⟩ => ⟨_, _, he, rfl, hw⟩
def NumberPost (s : ByteArray) (w : World) (e : Ending) (w' : World) : Prop :=
 e = .returned (.tuple #[.int .i64 (numberR s.data.toList).1, .bool (numberR s.data.toList).2.1, .bool (numberR s.data.toList).2.2]) ∧ w = w'
theorem numberPost_of {s : ByteArray} {n : Nat} {ix ok : Bool} {w : World} (h : numberR s.data.toList = (n, ix, ok)) : NumberPost s w (.returned (.tuple #[.int .i64 n, .bool ix, .bool ok])) w := ⟨by rw [h], rfl⟩
theorem dec_one (n : Nat) : decide ((1 : Int) ≤ n) = decide (1 ≤ n) := by simp only [decide_eq_decide]; omega
theorem tail_extract (s : ByteArray) : (s.extract 1 s.size).data.toList = s.data.toList.tail := by
 rw [extract_toList, List.take_of_length_le (by simp), List.drop_one]
set_option maxHeartbeats 1000000 in
set_option maxRecDepth 100000 in
theorem number_ref (s : ByteArray) (w : World) :
  Calls Tryz.prog 136 #[.string s] w (NumberPost s w) := by
 cases hx : (s.toList == [105, 110, 100, 101, 120])
 ·have hne := ne_of_beq_toList hx
  cases h0 : s.toList.isEmpty
  ·have hn0 := nonempty_of h0
   have hpos : 0 < s.size := by rw [size_eq]; exact List.length_pos_iff.2 hn0
   have hb := (s[0]'hpos).toNat_lt
   have hh := head_at s hpos
   cases hi : (((s[0]'hpos).toNat : Int) == 105)
   ·have hs := Lib.hid (show numberR s.data.toList = (0, false, false) from number_head (by
     rw [hh]
     intro e
     have : s[0]'hpos = 105 := Option.some.inj e
     rw [this] at hi
     cases hi))
    clear hne hn0 hh
    go_enter Tryz.func136, Tryz.ntmps136
    go_wp2_with fail
    go_ret3
    exact numberPost_of hs.out
   ·have h105 : s.data.toList.head? = some 105 := by
     rw [hh]
     rw [beq_iff_eq] at hi
     exact congrArg some (UInt8.toNat_inj.1 (by simpa using (by omega : (s[0]'hpos).toNat = 105)))
    have hs := Lib.hid (show numberR s.data.toList = ((numR s.data.toList.tail 64).1, false, (numR s.data.toList.tail 64).2 && decide (1 ≤ (numR s.data.toList.tail 64).1)) by rw [numberR, if_neg hne, if_pos h105])
    clear hne hn0 hh h105
    go_enter Tryz.func136, Tryz.ntmps136
    go_wp2_with fail
    refine (Num_64 (s.extract 1 s.size) _).mono ?_
    rintro e w1 ⟨n, ok, rfl, hn, rfl⟩
    rw [tail_extract] at hn
    have HN := Lib.hid hn
    clear hn
    cases ok
    ·go_wp2_with fail
     go_ret3
     exact numberPost_of (by rw [hs.out, HN.out]; rfl)
    ·go_wp2_with fail
     go_ret3
     exact numberPost_of (by rw [hs.out, HN.out, dec_one]; rfl)
  ·have hs := Lib.hid (show numberR s.data.toList = (0, false, false) by rw [empty_of h0]; rfl)
   clear hne
   go_enter Tryz.func136, Tryz.ntmps136
   go_wp2_with fail
   go_ret3
   exact numberPost_of hs.out
 ·have hs := Lib.hid (show numberR s.data.toList = (64, true, true) by rw [numberR, if_pos (eq_of_beq_toList hx)])
  go_enter Tryz.func136, Tryz.ntmps136
  go_wp2_with fail
  go_ret3
  exact numberPost_of hs.out
theorem number_some_ref (s : ByteArray) (w : World) : Calls Tryz.prog 136 #[.string s] w fun e w' => ∃ (n : Nat) (ix ok : Bool), e = .returned (.tuple #[.int .i64 n, .bool ix, .bool ok]) ∧ numberR s.data.toList = (n, ix, ok) ∧ w = w' :=
 (number_ref s w).mono fun _ _ ⟨he, hw⟩ => ⟨_, _, _, he, rfl, hw⟩
end Go.Proofs.YtgimdkgjfenafaaGreatDoor
namespace Go.Proofs.YtgimdkgjfenafaaGreatDoor
open Go.RowKit
def IsNamePost (s : ByteArray) (w : World) (e : Ending) (w' : World) : Prop := e = .returned (.bool (isNameR s.data.toList)) ∧ w = w'
theorem isNamePost_of {s : ByteArray} {b : Bool} {w : World} (h : isNameR s.data.toList = b) : IsNamePost s w (.returned (.bool b)) w := ⟨by rw [h], rfl⟩
theorem headLetter_at {s : ByteArray} (h : 0 < s.size) : headLetter s.data.toList = bLetter (s[0]'h) := by
 have := head_at s h
 cases hl : s.data.toList with
 | nil => rw [hl] at this; cases this
 | cons c l =>
  rw [hl] at this
  have e : c = s[0]'h := Option.some.inj this
  rw [← e]; rfl
theorem name_no {l : List UInt8} (h : ¬ (l.length ≤ 60 ∧ headLetter l = true ∧ l.all bPart = true)) : isNameR l = false := by
 cases hz : isNameR l
 ·rfl
 ·exact absurd ((isNameR_iff l).1 hz) h
theorem part_step {s : ByteArray} {m : Nat} (h : (s.data.toList.take m).all bPart = true) (hm : m < s.size) (hp : bPart (s[m]'hm) = true) : (s.data.toList.take (m + 1)).all bPart = true := by
 have hl : m < s.data.toList.length := by simpa using hm
 rw [take_snoc hl, all_snoc, h, Bool.true_and]
 exact hp
theorem part_bad {s : ByteArray} {m : Nat} (hm : m < s.size) (hp : ¬ bPart (s[m]'hm) = true) : isNameR s.data.toList = false := name_no fun h => hp (by
 have := h.2.2
 rw [List.all_eq_true] at this
 exact this _ (List.getElem_mem (show m < s.data.toList.length by simpa using hm)))
set_option maxHeartbeats 1000000 in
set_option maxRecDepth 100000 in
theorem IsName_ref (s : ByteArray) (w : World) : Calls Tryz.prog 50 #[.string s] w (IsNamePost s w) := by
 cases h0 : s.toList.isEmpty
 ·have hne := nonempty_of h0
  have hpos : 0 < s.size := by rw [size_eq]; exact List.length_pos_iff.2 hne
  have hb := (s[0]'hpos).toNat_lt
  by_cases h60 : 60 < s.size
  ·have hs := Lib.hid (name_no (l := s.data.toList) (fun h => by have := h.1; simp at this; omega))
   clear hne
   go_enter Tryz.func50, Tryz.ntmps50
   go_wp2_with fail
   go_ret
   exact isNamePost_of hs.out
  ·by_cases hlet : 97 ≤ (s[0]'hpos).toNat ∧ (s[0]'hpos).toNat ≤ 122
   ·have hL := Lib.hid (show headLetter s.data.toList = true by rw [headLetter_at hpos]; exact (letter_iff _).2 hlet)
    have hl := hlet.1
    have hr := hlet.2
    have hfirst : Hid ((s.data.toList.take 1).all bPart = true) := part_step (m := 0) (by simp) hpos (letter_part ((letter_iff _).2 hlet))
    clear hne hlet
    go_enter Tryz.func50, Tryz.ntmps50
    go_wp2_with fail
    go_loopw [3] (fun i wr => ∃ m : Nat, m ≤ s.size ∧ i = .int .i64 m ∧ Hid ((s.data.toList.take m).all bPart = true) ∧ wr = w) (fun i _ => s.size - (intOf i).toNat)
    case atStart => exact ⟨1, hpos, rfl, hfirst, rfl⟩
    case round =>
     obtain ⟨m, hms, rfl, hall, rfl⟩ := hrel
     by_cases hlt : m < s.size
     ·have hbm := (s[m]'hlt).toNat_lt
      have hp := part_iff (s[m]'hlt)
      by_cases c1 : 97 ≤ (s[m]'hlt).toNat
      ·by_cases c2 : (s[m]'hlt).toNat ≤ 122
       ·have hq := Lib.hid (hp.2 (.inl ⟨c1, c2⟩))
        clear hp
        go_wp2_with fail
        all_goals
         go_roundw
         case rel => exact ⟨m + 1, by omega, by go_num, part_step hall.out hlt hq.out, trivial⟩
         case measure => simp [intOf]; omega
       ·have hq := Lib.hid (part_bad hlt (fun h => by rcases hp.1 h with h | h | h <;> omega))
        have c3 : 57 < (s[m]'hlt).toNat := by omega
        have c5 : (((s[m]'hlt).toNat : Int) == 95) = false := by rw [beq_eq_false_iff_ne]; omega
        have d2 : decide (((s[m]'hlt).toNat : Int) ≤ 122) = false := decide_eq_false (by omega)
        have d4 : decide (((s[m]'hlt).toNat : Int) ≤ 57) = false := decide_eq_false (by omega)
        clear hp
        go_wp2_with fail
        go_ret
        exact isNamePost_of hq.out
      ·by_cases c3 : 48 ≤ (s[m]'hlt).toNat
       ·by_cases c4 : (s[m]'hlt).toNat ≤ 57
        ·have hq := Lib.hid (hp.2 (.inr (.inl ⟨c3, c4⟩)))
         clear hp
         go_wp2_with fail
         all_goals
          go_roundw
          case rel => exact ⟨m + 1, by omega, by go_num, part_step hall.out hlt hq.out, trivial⟩
          case measure => simp [intOf]; omega
        ·cases c5 : (((s[m]'hlt).toNat : Int) == 95)
         ·have hq := Lib.hid (part_bad hlt (fun h => by rw [beq_eq_false_iff_ne] at c5; rcases hp.1 h with h | h | h <;> omega))
          have d1 : decide (97 ≤ ((s[m]'hlt).toNat : Int)) = false := decide_eq_false (by omega)
          have d4 : decide (((s[m]'hlt).toNat : Int) ≤ 57) = false := decide_eq_false (by omega)
          clear hp
          go_wp2_with fail
          go_ret
          exact isNamePost_of hq.out
         ·have hq := Lib.hid (hp.2 (.inr (.inr (by rw [beq_iff_eq] at c5; omega))))
          clear hp
          go_wp2_with fail
          all_goals
           go_roundw
           case rel => exact ⟨m + 1, by omega, by go_num, part_step hall.out hlt hq.out, trivial⟩
           case measure => simp [intOf]; omega
       ·have hq := Lib.hid (part_bad hlt (fun h => by rcases hp.1 h with h | h | h <;> omega))
        have c5 : (((s[m]'hlt).toNat : Int) == 95) = false := by rw [beq_eq_false_iff_ne]; omega
        clear hp
        go_wp2_with fail
        go_ret
        exact isNamePost_of hq.out
     ·obtain rfl : m = s.size := by omega
      have hq : Hid (isNameR s.data.toList = true) := (isNameR_iff _).2 ⟨by simp; omega, hL.out, by have := hall.out; rwa [List.take_of_length_le (by simp)] at this⟩
      go_wp2_with fail
      go_ret
      exact isNamePost_of hq.out
   ·have hs := Lib.hid (name_no (l := s.data.toList) (fun h => by have := h.2.1; rw [headLetter_at hpos] at this; exact hlet ((letter_iff _).1 this)))
    clear hne
    by_cases hl : 97 ≤ (s[0]'hpos).toNat
    ·have hr : ¬ (s[0]'hpos).toNat ≤ 122 := fun h => hlet ⟨hl, h⟩
     clear hlet
     go_enter Tryz.func50, Tryz.ntmps50
     go_wp2_with fail
     go_ret
     exact isNamePost_of hs.out
    ·clear hlet
     go_enter Tryz.func50, Tryz.ntmps50
     go_wp2_with fail
     go_ret
     exact isNamePost_of hs.out
 ·have hs := Lib.hid (show isNameR s.data.toList = false by rw [empty_of h0]; rfl)
  go_enter Tryz.func50, Tryz.ntmps50
  go_wp2_with fail
  go_ret
  exact isNamePost_of hs.out
def IsPairPost (s : ByteArray) (most : Nat) (w : World) (e : Ending) (w' : World) : Prop := e = .returned (.bool (isPairR s.data.toList most)) ∧ w = w'
theorem isPairPost_of {s : ByteArray} {most : Nat} {b : Bool} {w : World} (h : isPairR s.data.toList most = b) : IsPairPost s most w (.returned (.bool b)) w := ⟨by rw [h], rfl⟩
theorem pair_at {s : ByteArray} {most m : Nat} (hle : s.size ≤ most) (h : (s.data.toList.take m).all notDot = true) (hm : m < s.size) (hd : notDot (s[m]'hm) = false) :
  isPairR s.data.toList most = (isNameR (s.data.toList.take m) && isNameR (s.data.toList.drop (m + 1))) := by
 have hl : m < s.data.toList.length := by simpa using hm
 have hcat : s.data.toList = s.data.toList.take m ++ s[m]'hm :: s.data.toList.drop (m + 1) := by
  conv => lhs; rw [← List.take_append_drop m s.data.toList, List.drop_eq_getElem_cons hl]
  rfl
 obtain ⟨h1, h2⟩ := tw_append (p := notDot) (m := s[m]'hm :: s.data.toList.drop (m + 1)) h
 rw [← hcat] at h1 h2
 simp only [List.takeWhile_cons, hd, List.dropWhile_cons, List.append_nil, Bool.false_eq_true, if_false] at h1 h2
 unfold isPairR
 rw [h1, h2, decide_eq_true (by simpa using hle), Bool.true_and, List.tail_cons]
 rfl
theorem pair_never {s : ByteArray} {most : Nat} (h : s.data.toList.all notDot = true) : isPairR s.data.toList most = false := by
 unfold isPairR
 rw [(tw_all h).2]
 simp
theorem dot_step {s : ByteArray} {m : Nat} (h : (s.data.toList.take m).all notDot = true) (hm : m < s.size) (hp : notDot (s[m]'hm) = true) : (s.data.toList.take (m + 1)).all notDot = true := by
 have hl : m < s.data.toList.length := by simpa using hm
 rw [take_snoc hl, all_snoc, h, Bool.true_and]
 exact hp
theorem front_extract (s : ByteArray) (m : Nat) : (s.extract 0 m).data.toList = s.data.toList.take m := by
 rw [extract_toList, List.drop_zero]
theorem back_extract (s : ByteArray) (m : Nat) : (s.extract m s.size).data.toList = s.data.toList.drop m := by
 rw [extract_toList, List.take_of_length_le (by simp)]
theorem IsName_some (s : ByteArray) (w : World) : Calls Tryz.prog 50 #[.string s] w fun e w' => ∃ b, e = .returned (.bool b) ∧ isNameR s.data.toList = b ∧ w = w' :=
 (IsName_ref s w).mono fun _ _ ⟨he, hw⟩ => ⟨_, he, rfl, hw⟩
set_option maxHeartbeats 1000000 in
set_option maxRecDepth 100000 in
theorem IsPair_ref (s : ByteArray) (most : Nat) (hmost : most < 1000) (w : World) : Calls Tryz.prog 137 #[.string s, .int .i64 most] w (IsPairPost s most w) := by
 by_cases hle : s.size ≤ most
 ·go_enter Tryz.func137, Tryz.ntmps137
  go_wp2_with fail
  go_loopw [5] (fun i wr => ∃ m : Nat, m ≤ s.size ∧ i = .int .i64 m ∧ Hid ((s.data.toList.take m).all notDot = true) ∧ wr = w) (fun i _ => s.size - (intOf i).toNat)
  case atStart => exact ⟨0, Nat.zero_le _, rfl, rfl, rfl⟩
  case round =>
   obtain ⟨m, hms, rfl, hall, rfl⟩ := hrel
   by_cases hlt : m < s.size
   ·have hb := (s[m]'hlt).toNat_lt
    cases hd : (((s[m]'hlt).toNat : Int) == 46)
    ·have hq := Lib.hid (show notDot (s[m]'hlt) = true by unfold notDot bIs; rw [hd]; rfl)
     go_wp2_with fail
     go_roundw
     case rel => exact ⟨m + 1, by omega, by go_num, dot_step hall.out hlt hq.out, trivial⟩
     case measure => simp [intOf]; omega
    ·have hq := Lib.hid (pair_at hle hall.out hlt (show notDot (s[m]'hlt) = false by unfold notDot bIs; rw [hd]; rfl))
     go_wp2_with fail
     refine (IsName_some _ _).mono ?_
     rintro e w1 ⟨b1, rfl, h1, rfl⟩
     rw [front_extract] at h1
     have H1 := Lib.hid h1
     clear h1
     cases b1
     ·go_wp2_with fail
      go_ret
      exact isPairPost_of (by rw [hq.out, H1.out]; rfl)
     ·go_wp2_with fail
      refine (IsName_some _ _).mono ?_
      rintro e w1 ⟨b2, rfl, h2, rfl⟩
      rw [back_extract] at h2
      have H2 := Lib.hid h2
      clear h2
      go_wp2_with fail
      go_ret
      exact isPairPost_of (by rw [hq.out, H1.out, H2.out]; rfl)
   ·obtain rfl : m = s.size := by omega
    have hq : Hid (isPairR s.data.toList most = false) := pair_never (by have := hall.out; rwa [List.take_of_length_le (by simp)] at this)
    go_wp2_with fail
    go_ret
    exact isPairPost_of hq.out
 ·have hs := Lib.hid (show isPairR s.data.toList most = false by
   unfold isPairR
   rw [decide_eq_false (by simpa using hle)]
   rfl)
  go_enter Tryz.func137, Tryz.ntmps137
  go_wp2_with fail
  go_loopw [5] (fun i wr => i = .int .i64 0 ∧ wr = w) (fun _ _ => 0)
  case atStart => exact ⟨rfl, rfl⟩
  case round =>
   obtain ⟨rfl, rfl⟩ := hrel
   go_wp2_with fail
   all_goals go_ret
   all_goals exact isPairPost_of hs.out
end Go.Proofs.YtgimdkgjfenafaaGreatDoor
