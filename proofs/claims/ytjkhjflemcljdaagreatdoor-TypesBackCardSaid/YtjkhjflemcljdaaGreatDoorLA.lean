/-
  Lists of types as plain lists of bytes: the reference's way through a list, and that the program's parts say the same.
-/
import Derived.Test.YtjkhjflemcljdaaGreatDoorYC
import Derived.Test.YtjkhjflemcljdaaGreatDoorQ
import Derived.Lib.IndexLaws
import Derived.Lib.Join
import Derived.Lib.IndexMore
namespace Go.Proofs.YtjkhjflemcljdaaGreatDoor
open Go.RowKit

def notComma (b : UInt8) : Bool := !(bIs 44 b)
/-- Is a string a type for the reference? -/
def isTyR (l : List UInt8) : Bool := (readR l).isSome
abbrev gap : List UInt8 := [44, 32]

theorem comma_iff (c : UInt8) : notComma c = true ↔ ¬ c = 44 := by
  have := is_iff (x := 44) (y := 44) (by decide) c
  unfold notComma
  rw [Bool.not_eq_true', ← Bool.not_eq_true, this]

theorem isTy_isTyR (l : List UInt8) : isTy l = isTyR l := by
  unfold isTyR
  rcases agree l with ⟨h1, h2⟩ | ⟨k, b, r, e0, e1, e2, el, _, h1, h2, h3⟩
  · rw [h1, isTy, h2]; rfl
  · rw [h1, isTy, h2]
    by_cases hk : k = 0
    · have hb : ¬ b = 0 := fun e => h3 ⟨hk, e⟩
      simp [hb]
    · simp [hk]

/-! ### A type has no comma -/
theorem part_comma (c : UInt8) (h : bPart c = true) : notComma c = true := (comma_iff c).2 (fun e => by subst e; revert h; decide)
theorem all_append {p : UInt8 → Bool} {l m : List UInt8} (h : l.all p = true) (k : m.all p = true) : (l ++ m).all p = true := by rw [List.all_append, h, k]; rfl
theorem exts_comma : ∀ (m : Nat) (l : List UInt8) (es es' : List Int) (l2 : List UInt8), extsR m l es = some (es', l2) → l2.all notComma = true → l.all notComma = true := by
  intro m
  induction m with
  | zero =>
    intro l es es' l2 h h2
    rw [extsR_eq] at h
    split at h
    · injection h with h
      injection h with _ h
      rw [h]; exact h2
    · split at h <;> cases h
  | succ m ih =>
    intro l es es' l2 h h2
    rw [extsR_eq] at h
    split at h
    · injection h with h
      injection h with _ h
      rw [h]; exact h2
    · split at h
      · cases h
      · rename_i hc
        have h3 := ih _ _ _ _ h h2
        rw [← tw_dw (p := notX) l]
        refine all_append ?_ ?_
        · cases hn : (numR (l.takeWhile notX) 1000).2
          · exact absurd (.inl hn) hc
          · exact all_imp (numR_yes hn).1 (fun c hc => part_comma c ((part_iff c).2 (.inr (.inl ((digit_iff c).1 hc)))))
        · cases hd : l.dropWhile notX with
          | nil => rfl
          | cons x t =>
            rw [hd, List.tail_cons] at h3
            have hx := dw_head hd
            rw [List.all_cons, h3, Bool.and_true]
            refine (comma_iff x).2 (fun e => ?_)
            subst e
            revert hx; decide

theorem name_comma {l : List UInt8} (h : isNameR l = true) : l.all notComma = true := all_imp ((isNameR_iff l).1 h).2.2 part_comma
theorem pair_comma {l : List UInt8} {m : Nat} (h : isPairR l m = true) : l.all notComma = true := by
  unfold isPairR at h
  simp only [Bool.and_eq_true] at h
  obtain ⟨⟨⟨_, hne⟩, h1⟩, h2⟩ := h
  rw [← tw_dw (p := notDot) l]
  refine all_append (name_comma h1) ?_
  cases hd : l.dropWhile notDot with
  | nil => rfl
  | cons x t =>
    have hx := dw_head hd
    rw [hd, List.tail_cons] at h2
    rw [List.all_cons, name_comma h2, Bool.and_true]
    refine (comma_iff x).2 (fun e => ?_)
    subst e
    revert hx; decide
theorem ty_comma {l : List UInt8} (h : isTyR l = true) : l.all notComma = true := by
  unfold isTyR readR at h
  split at h
  · rename_i hn
    exact all_imp (number_len hn).2 part_comma
  split at h
  · rename_i h33
    split at h
    · rename_i hp
      cases l with
      | nil => rfl
      | cons c t =>
        have : c = 33 := by simpa using h33.2
        subst this
        rw [List.all_cons, show t.all notComma = true from pair_comma hp]; rfl
    · cases h
  split at h
  · cases h
  rename_i hc
  have hc1 : ¬ l.length < 5 := fun e => hc (.inl e)
  have hc2 : l.take 4 = memW ∨ l.take 4 = arrW := by
    by_cases a : l.take 4 = memW
    · exact .inl a
    · by_cases b : l.take 4 = arrW
      · exact .inr b
      · exact absurd (.inr (.inl ⟨a, b⟩)) hc
  have hc3 : l.getLast? = some 62 := by
    by_cases a : l.getLast? = some 62
    · exact a
    · exact absurd (.inr (.inr a)) hc
  split at h
  · cases h
  rename_i es l2 he
  split at h
  rotate_left
  · cases h
  rename_i hn
  have hmid := exts_comma _ _ _ _ _ he (all_imp (number_len hn.1).2 part_comma)
  rw [← List.take_append_drop 4 l]
  refine all_append ?_ ?_
  · rcases hc2 with e | e <;> rw [e] <;> decide
  · have hne : ¬ l.drop 4 = [] := fun e => by
      have := congrArg List.length e
      rw [List.length_drop, List.length_nil] at this
      omega
    have hl : (l.drop 4).getLast? = some 62 := by
      have hlast : l.getLast? = (l.drop 4).getLast? := by
        conv => lhs; rw [← List.take_append_drop 4 l]
        rw [List.getLast?_append]
        cases hx : (l.drop 4).getLast? with
        | none => exact absurd (List.getLast?_eq_none_iff.1 hx) hne
        | some x => rfl
      rw [← hlast]; exact hc3
    obtain ⟨inner, hin⟩ := last_is hl
    rw [hin, List.dropLast_concat] at hmid
    rw [hin]
    exact all_append hmid (by decide)

/-! ### The reference's way -/
/-- The types of a list of types, which is not empty, as the reference finds them: the strings between commas. -/
def splitL : Nat → List UInt8 → Option (List (List UInt8))
  | 0, _ => none
  | n + 1, l => if isTyR (l.takeWhile notComma) = false then none
    else if l.dropWhile notComma = [] then some [l.takeWhile notComma]
    else if (l.dropWhile notComma).tail.head? = some 32 then (splitL n (l.dropWhile notComma).tail.tail).map (l.takeWhile notComma :: ·)
    else none

theorem join_more (x y : List UInt8) (r : List (List UInt8)) : Lib.join (x :: y :: r) gap = x ++ gap ++ Lib.join (y :: r) gap := by
  rw [Lib.join_cons, Lib.join_cons]
  simp [Lib.joinTail]
theorem join_len : ∀ (ps : List (List UInt8)), ps.length ≤ (Lib.join ps gap).length + 1
  | [] => by simp
  | [x] => by simp
  | x :: y :: r => by
    have := join_len (y :: r)
    rw [join_more]
    simp only [List.length_append, List.length_cons, List.length_nil] at *
    omega

theorem split_join : ∀ (n : Nat) (l : List UInt8) (ps : List (List UInt8)), splitL n l = some ps → ps ≠ [] ∧ l = Lib.join ps gap ∧ ∀ p ∈ ps, isTyR p = true := by
  intro n
  induction n with
  | zero => intro l ps h; cases h
  | succ n ih =>
    intro l ps h
    unfold splitL at h
    split at h
    · cases h
    rename_i ht
    have ht : isTyR (l.takeWhile notComma) = true := by simpa using ht
    split at h
    · rename_i hd
      cases h
      refine ⟨by simp, ?_, fun p hp => by simp only [List.mem_singleton] at hp; rw [hp]; exact ht⟩
      rw [Lib.join_one]
      have := tw_dw (p := notComma) l
      rw [hd, List.append_nil] at this
      exact this.symm
    split at h
    rotate_left
    · cases h
    rename_i hd h32
    cases hs : splitL n (l.dropWhile notComma).tail.tail with
    | none => rw [hs] at h; cases h
    | some qs =>
      rw [hs] at h
      cases h
      obtain ⟨hne, hj, hall⟩ := ih _ _ hs
      cases qs with
      | nil => exact absurd rfl hne
      | cons q qs =>
        refine ⟨by simp, ?_, fun p hp => ?_⟩
        · rw [join_more, ← hj]
          cases hdd : l.dropWhile notComma with
          | nil => exact absurd hdd hd
          | cons x t =>
            have hx := dw_head hdd
            have hx : x = 44 := Decidable.byContradiction fun e => by rw [(comma_iff x).2 e] at hx; cases hx
            rw [hdd, List.tail_cons] at h32
            cases t with
            | nil => cases h32
            | cons y t =>
              rw [List.head?_cons] at h32
              cases h32
              subst hx
              have := tw_dw (p := notComma) l
              rw [hdd] at this
              simp only [List.tail_cons, List.append_assoc]
              exact this.symm
        · rcases List.mem_cons.1 hp with e | e
          · rw [e]; exact ht
          · exact hall p e

theorem tw_gap {x r : List UInt8} (h : x.all notComma = true) : (x ++ gap ++ r).takeWhile notComma = x ∧ (x ++ gap ++ r).dropWhile notComma = gap ++ r := by
  rw [List.append_assoc]
  have h1 := tw_append (p := notComma) (l := x) (m := gap ++ r) h
  rw [h1.1, h1.2]
  simp [gap, show notComma 44 = false by decide]

theorem join_split : ∀ (ps : List (List UInt8)) (n : Nat), ps ≠ [] → (∀ p ∈ ps, isTyR p = true) → (Lib.join ps gap).length < n → splitL n (Lib.join ps gap) = some ps := by
  intro ps
  induction ps with
  | nil => intro n h; exact absurd rfl h
  | cons x r ih =>
    intro n _ hall hn
    have hx := hall x (by simp)
    have hxc := ty_comma hx
    cases n with
    | zero => omega
    | succ n =>
      cases r with
      | nil =>
        rw [Lib.join_one]
        obtain ⟨h1, h2⟩ := tw_all hxc
        rw [splitL, h1, h2, if_neg (by rw [hx]; decide), if_pos rfl]
      | cons y r =>
        rw [join_more] at hn ⊢
        obtain ⟨h1, h2⟩ := tw_gap (x := x) (r := Lib.join (y :: r) gap) hxc
        rw [splitL, h1, h2, if_neg (by rw [hx]; decide), if_neg (by simp), if_pos (by simp)]
        simp only [List.cons_append, List.nil_append, List.tail_cons]
        rw [ih n (by simp) (fun p hp => hall p (by simp at hp ⊢; exact .inr hp)) (by simp only [List.length_append, List.length_cons, List.length_nil] at hn; omega)]
        rfl

/-! ### The program's parts -/
theorem index_at {s sub : List UInt8} {i : Nat} (h : Lib.index s sub = i) : s.take i ++ sub ++ s.drop (i + sub.length) = s := by
  rcases Lib.index_spec s sub with ⟨h1, _⟩ | ⟨j, h1, _, ho, _⟩
  · omega
  · obtain rfl : j = i := by omega
    unfold Lib.occAt at ho
    obtain ⟨t, ht⟩ := List.isPrefixOf_iff_prefix.1 ho
    have e : t = s.drop (j + sub.length) := by rw [← List.drop_drop, ← ht, List.drop_left]
    rw [← e, List.append_assoc, ht, List.take_append_drop]
theorem index_no : ∀ {p : List UInt8}, p.all notComma = true → Lib.index p gap = -1
  | [], _ => rfl
  | b :: l, h => by
    rw [List.all_cons, Bool.and_eq_true] at h
    have hb := (comma_iff b).1 h.1
    unfold Lib.index
    rw [if_neg (by simp [List.isPrefixOf]; intro e; exact absurd e.symm hb), index_no h.2]
    rfl
theorem index_yes : ∀ {p : List UInt8} (r : List UInt8), p.all notComma = true → Lib.index (p ++ gap ++ r) gap = (p.length : Int)
  | [], r, _ => by
    show Lib.index (44 :: 32 :: r) gap = 0
    unfold Lib.index
    rw [if_pos (by simp [List.isPrefixOf])]
  | b :: l, r, h => by
    rw [List.all_cons, Bool.and_eq_true] at h
    have hb := (comma_iff b).1 h.1
    have ih := index_yes r h.2
    show Lib.index (b :: (l ++ gap ++ r)) gap = _
    unfold Lib.index
    rw [if_neg (by simp [List.isPrefixOf]; intro e; exact absurd e.symm hb), ih, if_neg (by simp)]
    simp

theorem parts_back : ∀ (ps : List (List UInt8)) (k : Nat) (s : ByteArray), ps ≠ [] → (∀ p ∈ ps, p.all notComma = true) → ps.length ≤ k + 1 → s.data.toList = Lib.join ps gap →
    (Lib.splitB ⟨#[44, 32]⟩ 0 k s).map (·.data.toList) = ps := by
  intro ps
  induction ps with
  | nil => intro k s h; exact absurd rfl h
  | cons x r ih =>
    intro k s _ hall hk hs
    have hx := hall x (by simp)
    cases r with
    | nil =>
      rw [Lib.join_one] at hs
      rw [Lib.splitB_miss _ _ _ _ (by show Lib.index s.data.toList gap = -1; rw [hs]; exact index_no hx)]
      simp [hs]
    | cons y r =>
      cases k with
      | zero => simp at hk
      | succ k =>
        rw [join_more] at hs
        have hi : Lib.indexB s ⟨#[44, 32]⟩ = (x.length : Int) := by
          show Lib.index s.data.toList gap = _
          rw [hs]; exact index_yes _ hx
        rw [Lib.splitB_hit _ _ _ _ _ hi, List.map_cons]
        have e1 : (s.extract 0 (x.length + 0)).data.toList = x := by
          rw [front_extract, hs, Nat.add_zero]; simp
        have e2 : (s.extract (x.length + (⟨#[44, 32]⟩ : ByteArray).size) s.size).data.toList = Lib.join (y :: r) gap := by
          rw [back_extract, hs, show (⟨#[44, 32]⟩ : ByteArray).size = 2 from rfl, show x.length + 2 = (x ++ gap).length by simp, List.drop_left']
          rfl
        rw [e1, ih k _ (by simp) (fun p hp => hall p (by simp at hp ⊢; exact .inr hp)) (by simp at hk ⊢; omega) e2]

theorem splitB_join : ∀ (k : Nat) (s : ByteArray), Lib.splitB ⟨#[44, 32]⟩ 0 k s ≠ [] ∧ Lib.join ((Lib.splitB ⟨#[44, 32]⟩ 0 k s).map (·.data.toList)) gap = s.data.toList := by
  intro k
  induction k with
  | zero => intro s; exact ⟨by simp [Lib.splitB], by simp [Lib.splitB, Lib.join_one]⟩
  | succ k ih =>
    intro s
    rcases Lib.indexB_cases s ⟨#[44, 32]⟩ with h | ⟨i, h, hr⟩
    · rw [Lib.splitB_miss _ _ _ _ h]
      exact ⟨by simp, by simp [Lib.join_one]⟩
    · rw [Lib.splitB_hit _ _ _ _ _ h]
      refine ⟨by simp, ?_⟩
      obtain ⟨hne, hj⟩ := ih (s.extract (i + (⟨#[44, 32]⟩ : ByteArray).size) s.size)
      cases hq : Lib.splitB ⟨#[44, 32]⟩ 0 k (s.extract (i + (⟨#[44, 32]⟩ : ByteArray).size) s.size) with
      | nil => exact absurd hq hne
      | cons y r =>
        rw [hq] at hj
        rw [List.map_cons] at hj
        rw [List.map_cons, List.map_cons, join_more, hj, front_extract, back_extract, Nat.add_zero]
        have hat := index_at (s := s.data.toList) (sub := gap) (i := i) h
        rw [show (⟨#[44, 32]⟩ : ByteArray).size = 2 from rfl]
        exact hat

end Go.Proofs.YtjkhjflemcljdaaGreatDoor
