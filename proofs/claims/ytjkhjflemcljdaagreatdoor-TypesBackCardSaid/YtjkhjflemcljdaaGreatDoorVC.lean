/-
  The reference's reading of a type as a plain function on bytes, and that the program's reading says the same of every string.
-/
import Derived.Test.YtjkhjflemcljdaaGreatDoorVB
namespace Go.Proofs.YtjkhjflemcljdaaGreatDoor
open Go.RowKit

def notX (b : UInt8) : Bool := !(bIs 120 b)
def headDigit (l : List UInt8) : Bool := match l with | [] => false | c :: _ => bDigit c
/-- The reference's loop over the extents: with those read so far, what it reads and what is left. -/
def extsR : Nat → List UInt8 → List Int → Option (List Int × List UInt8)
  | m, l, es =>
    if headDigit l = false then some (es, l)
    else if (numR (l.takeWhile notX) 1000).2 = false ∨ l.dropWhile notX = [] then none
    else match m with
      | 0 => none
      | m + 1 => extsR m (l.dropWhile notX).tail (es ++ [((numR (l.takeWhile notX) 1000).1 : Int)])

theorem extsR_eq (m : Nat) (l : List UInt8) (es : List Int) : extsR m l es = if headDigit l = false then some (es, l)
    else if (numR (l.takeWhile notX) 1000).2 = false ∨ l.dropWhile notX = [] then none
    else match m with
      | 0 => none
      | m + 1 => extsR m (l.dropWhile notX).tail (es ++ [((numR (l.takeWhile notX) 1000).1 : Int)]) := by
  cases m <;> rw [extsR]
theorem shapeLoop_eq (m : Nat) (l : List UInt8) (r : Nat) (e0 e1 e2 : Int) : shapeLoop m l r e0 e1 e2 = if l.takeWhile bDigit = [] then some (r, e0, e1, e2, l.dropWhile bDigit)
    else if (numSpec (l.takeWhile bDigit) 0 1000).2 = false then none
    else if ¬ (l.dropWhile bDigit).takeWhile (bIs 120) = [120] then none
    else match m with
      | 0 => none
      | m + 1 => shapeLoop m ((l.dropWhile bDigit).dropWhile (bIs 120)) (r + 1)
          (if r = 0 then (numSpec (l.takeWhile bDigit) 0 1000).1 else e0) (if r = 1 then (numSpec (l.takeWhile bDigit) 0 1000).1 else e1) (if r = 2 then (numSpec (l.takeWhile bDigit) 0 1000).1 else e2) := by
  cases m <;> rw [shapeLoop]

theorem headDigit_iff (l : List UInt8) : headDigit l = false ↔ l.takeWhile bDigit = [] := by
  cases l with
  | nil => simp [headDigit]
  | cons c l =>
    cases hc : bDigit c <;> simp [headDigit, hc]
theorem digit_notX (c : UInt8) (h : bDigit c = true) : notX c = true := by
  unfold notX
  cases hd : bIs 120 c
  · rfl
  · obtain rfl := (is_iff (x := 120) (by decide) c).1 hd
    exact absurd h (by decide)

/-- How the two loops go together: the reference's over what stands between the brackets, the program's over that with the closing one. -/
def Paired (l : List UInt8) (m r : Nat) (e0 e1 e2 : Int) : Prop :=
  (extsR m l ([e0, e1, e2].take r) = none ∧ shapeLoop m (l ++ [62]) r e0 e1 e2 = none) ∨
  (∃ es l2, extsR m l ([e0, e1, e2].take r) = some (es, l2) ∧ l2.head? = some 120 ∧ shapeLoop m (l ++ [62]) r e0 e1 e2 = none) ∨
  (∃ r' x0 x1 x2 l2, r' ≤ 3 ∧ extsR m l ([e0, e1, e2].take r) = some ([x0, x1, x2].take r', l2) ∧ shapeLoop m (l ++ [62]) r e0 e1 e2 = some (r', x0, x1, x2, l2 ++ [62]))

theorem take_next {r : Nat} {e0 e1 e2 v : Int} (hr : r < 3) : [e0, e1, e2].take r ++ [v] = [if r = 0 then v else e0, if r = 1 then v else e1, if r = 2 then v else e2].take (r + 1) := by
  rcases (show r = 0 ∨ r = 1 ∨ r = 2 by omega) with rfl | rfl | rfl <;> rfl

theorem paired : ∀ (m : Nat) (l : List UInt8) (r : Nat) (e0 e1 e2 : Int), m + r = 3 → Paired l m r e0 e1 e2 := by
  intro m
  induction m with
  | zero =>
    intro l r e0 e1 e2 hr
    have hs := tw_snoc (p := bDigit) (c := 62) (by decide) l
    unfold Paired
    rw [extsR_eq, shapeLoop_eq, hs.1, hs.2]
    by_cases hd : l.takeWhile bDigit = []
    · rw [if_pos ((headDigit_iff l).2 hd), if_pos hd, tw_nil hd]
      exact .inr (.inr ⟨r, e0, e1, e2, l, by omega, rfl, rfl⟩)
    · rw [if_neg (fun h => hd ((headDigit_iff l).1 h)), if_neg hd]
      refine .inl ⟨?_, ?_⟩ <;> simp only [ite_self]
  | succ m ih =>
    intro l r e0 e1 e2 hr
    have hs := tw_snoc (p := bDigit) (c := 62) (by decide) l
    unfold Paired
    rw [extsR_eq, shapeLoop_eq, hs.1, hs.2]
    by_cases hd : l.takeWhile bDigit = []
    · rw [if_pos ((headDigit_iff l).2 hd), if_pos hd, tw_nil hd]
      exact .inr (.inr ⟨r, e0, e1, e2, l, by omega, rfl, rfl⟩)
    · rw [if_neg (fun h => hd ((headDigit_iff l).1 h)), if_neg hd]
      have hD := tw_is_all (p := bDigit) l
      have hns : numSpec (l.takeWhile bDigit) 0 1000 = if (numR (l.takeWhile bDigit) 1000).2 = true ∧ 0 ≤ (numR (l.takeWhile bDigit) 1000).1 then (((numR (l.takeWhile bDigit) 1000).1 : Int), true) else (0, false) :=
        numSpec_numR hD 0 1000 (by decide)
      have hcat := tw_dw (p := bDigit) l
      obtain ⟨a1, a2⟩ := tw_append (p := notX) (m := l.dropWhile bDigit) (all_imp hD digit_notX)
      rw [hcat] at a1 a2
      generalize hDD : l.takeWhile bDigit = D at *
      cases hR : l.dropWhile bDigit with
      | nil =>
        rw [hR] at a1 a2
        refine .inl ⟨?_, ?_⟩
        · rw [if_pos (.inr (by rw [a2]; rfl))]
        · rw [if_pos (c := ¬ _) (by decide), ite_self]
      | cons c R =>
        rw [hR] at a1 a2
        by_cases hc : c = 120
        · subst hc
          have hx : notX 120 = false := by decide
          simp only [List.takeWhile_cons, List.dropWhile_cons, hx, Bool.false_eq_true, if_false, List.append_nil] at a1 a2
          rw [a1, a2, hns]
          cases hn : (numR D 1000).2
          · simp only [Bool.false_eq_true, false_and, if_false, if_true, true_or]
            exact .inl ⟨trivial, trivial⟩
          · simp only [Bool.true_eq_false, true_and, Nat.zero_le, if_true, if_false, false_or, reduceCtorEq, List.tail_cons]
            by_cases hR120 : R.head? = some 120
            · obtain ⟨R', rfl⟩ : ∃ R', R = 120 :: R' := by
                cases R with
                | nil => cases hR120
                | cons a R' => rw [List.head?_cons] at hR120; cases hR120; exact ⟨R', rfl⟩
              refine .inr (.inl ⟨[e0, e1, e2].take r ++ [((numR D 1000).1 : Int)], 120 :: R', ?_, rfl, ?_⟩)
              · rw [extsR_eq, if_pos (show headDigit (120 :: R') = false from (by decide : bDigit 120 = false))]
              · rw [if_pos]
                simp [show bIs 120 120 = true by decide]
            · have hrun : ((120 :: R) ++ [62]).takeWhile (bIs 120) = [120] ∧ ((120 :: R) ++ [62]).dropWhile (bIs 120) = R ++ [62] := by
                cases R with
                | nil => exact ⟨by decide, by decide⟩
                | cons a R' =>
                  have ha : bIs 120 a = false := by
                    cases hb : bIs 120 a
                    · rfl
                    · exact absurd (congrArg some ((is_iff (x := 120) (by decide) a).1 hb)) (by simpa using hR120)
                  simp [show bIs 120 120 = true by decide, ha]
              rw [hrun.1, hrun.2, if_neg (fun h => h rfl), take_next (by omega)]
              exact ih R (r + 1) _ _ _ (by omega)
        · have hcd : bDigit c = false := dw_head hR
          refine .inl ⟨?_, ?_⟩
          · have hcx : notX c = true := by
              unfold notX
              cases hb : bIs 120 c
              · rfl
              · exact absurd ((is_iff (x := 120) (by decide) c).1 hb) hc
            exact if_pos (.inl (numR_false (by rw [a1]; simp [hcx, hcd])))
          · have : ((c :: R) ++ [62]).takeWhile (bIs 120) = [] := by
              have hb : bIs 120 c = false := by
                cases hb : bIs 120 c
                · rfl
                · exact absurd ((is_iff (x := 120) (by decide) c).1 hb) hc
              simp [hb]
            rw [this, if_pos (c := ¬ _) (by decide), ite_self]

theorem loop_suffix : ∀ (m : Nat) (l : List UInt8) (r : Nat) (e0 e1 e2 : Int) (r' : Nat) (x0 x1 x2 : Int) (l2 : List UInt8), shapeLoop m l r e0 e1 e2 = some (r', x0, x1, x2, l2) → ∃ pre, l = pre ++ l2 := by
  intro m
  induction m with
  | zero =>
    intro l r e0 e1 e2 r' x0 x1 x2 l2 h
    rw [shapeLoop_eq] at h
    split at h
    · injection h with h
      injection h with _ h
      injection h with _ h
      injection h with _ h
      injection h with _ h
      exact ⟨_, by rw [← h]; exact (tw_dw l).symm⟩
    · split at h
      · cases h
      · split at h <;> cases h
  | succ m ih =>
    intro l r e0 e1 e2 r' x0 x1 x2 l2 h
    rw [shapeLoop_eq] at h
    split at h
    · injection h with h
      injection h with _ h
      injection h with _ h
      injection h with _ h
      injection h with _ h
      exact ⟨_, by rw [← h]; exact (tw_dw l).symm⟩
    · split at h
      · cases h
      · split at h
        · cases h
        · obtain ⟨pre, hp⟩ := ih _ _ _ _ _ _ _ _ _ _ h
          refine ⟨l.takeWhile bDigit ++ ((l.dropWhile bDigit).takeWhile (bIs 120) ++ pre), ?_⟩
          rw [List.append_assoc, List.append_assoc, ← hp, tw_dw, tw_dw]

theorem exts_len : ∀ (m : Nat) (l : List UInt8) (es es' : List Int) (l2 : List UInt8), extsR m l es = some (es', l2) → l.length ≤ 10 * m + l2.length := by
  intro m
  induction m with
  | zero =>
    intro l es es' l2 h
    rw [extsR_eq] at h
    split at h
    · injection h with h
      injection h with _ h
      rw [h]; omega
    · split at h <;> cases h
  | succ m ih =>
    intro l es es' l2 h
    rw [extsR_eq] at h
    split at h
    · injection h with h
      injection h with _ h
      rw [h]; omega
    · split at h
      · cases h
      · rename_i hc
        have h2 := ih _ _ _ _ h
        have h1 := congrArg List.length (tw_dw (p := notX) l)
        rw [List.length_append] at h1
        have h9 : (l.takeWhile notX).length ≤ 9 := by
          cases hn : (numR (l.takeWhile notX) 1000).2
          · exact absurd (.inl hn) hc
          · exact (numR_yes hn).2.2.1
        have ht : (l.dropWhile notX).tail.length = (l.dropWhile notX).length - 1 := List.length_tail
        omega

theorem number_len {l : List UInt8} (h : (numberR l).2.2 = true) : l.length ≤ 10 ∧ l.all bPart = true := by
  unfold numberR at h
  split at h
  · rename_i hi
    rw [hi]
    exact ⟨by decide, by decide⟩
  · split at h
    · rename_i hh
      simp only [Bool.and_eq_true] at h
      obtain ⟨a1, _, a3, _⟩ := numR_yes h.1
      cases l with
      | nil => cases hh
      | cons c t =>
        rw [List.head?_cons] at hh
        cases hh
        rw [List.tail_cons] at a1 a3
        refine ⟨by simp only [List.length_cons]; omega, ?_⟩
        rw [List.all_cons, Bool.and_eq_true]
        exact ⟨by decide, all_imp a1 (fun c hc => (part_iff c).2 (.inr (.inl ((digit_iff c).1 hc))))⟩
    · cases h
theorem number_head {l : List UInt8} (h : l.head? ≠ some 105) : numberR l = (0, false, false) := by
  unfold numberR
  rw [if_neg (fun e => h (by rw [e]; rfl)), if_neg h]

abbrev memW : List UInt8 := [109, 101, 109, 60]
abbrev arrW : List UInt8 := [97, 114, 114, 60]
def prodL (es : List Int) : Int := es.foldl (· * ·) 1
theorem prodL_take {r : Nat} {e0 e1 e2 : Int} (h : r ≤ 3) : prodL ([e0, e1, e2].take r) = prodN r e0 e1 e2 := by
  rcases (show r = 0 ∨ r = 1 ∨ r = 2 ∨ r = 3 by omega) with rfl | rfl | rfl | rfl <;> simp [prodL, prodN]

/-- The reference's 'Read': kind, bits, extents and element; nothing: it is no type. -/
def readR (l : List UInt8) : Option (Int × Int × List Int × List UInt8) :=
  if (numberR l).2.2 = true then some (if (numberR l).2.1 = true then 1 else 0, ((numberR l).1 : Int), [], [])
  else if 1 < l.length ∧ l.head? = some 33 then (if isPairR l.tail 59 = true then some (4, 0, [], []) else none)
  else if l.length < 5 ∨ (l.take 4 ≠ memW ∧ l.take 4 ≠ arrW) ∨ l.getLast? ≠ some 62 then none
  else match extsR 3 ((l.drop 4).dropLast) [] with
    | none => none
    | some (es, l2) => if (numberR l2).2.2 = true ∧ prodL es ≤ 4096 then some (if l.take 4 = arrW then 3 else 2, 0, es, l2) else none

/-- What the program reads is what the reference reads. -/
def Agree (l : List UInt8) (z : Option (Int × Int × List Int × List UInt8)) : Prop :=
  (z = none ∧ descSpec l = descZero) ∨ ∃ k b r e0 e1 e2 el, r ≤ 3 ∧ z = some (k, b, [e0, e1, e2].take r, el) ∧ descSpec l = ⟨k, b, r, e0, e1, e2, el⟩ ∧ ¬ (k = 0 ∧ b = 0)

theorem shape_ends {l : List UInt8} {r : Nat} {x0 x1 x2 : Int} {el : List UInt8} (h : shapeSpec (60 :: l) = some (r, x0, x1, x2, el, [])) : ∃ inner, l = inner ++ [62] := by
  unfold shapeSpec at h
  split at h
  · cases h
  rename_i hrun
  obtain ⟨t, ht, _, hdt⟩ := (run_iff (x := 60) (by decide) _).1 (Decidable.not_not.1 hrun)
  injection ht with _ ht
  subst ht
  rw [hdt] at h
  split at h
  · cases h
  rename_i hl
  obtain ⟨pre, hp⟩ := loop_suffix _ _ _ _ _ _ _ _ _ _ _ hl
  rename_i l2
  split at h
  · cases h
  split at h
  · cases h
  rename_i hgt
  obtain ⟨t2, ht2, _, hdt2⟩ := (run_iff (x := 62) (by decide) _).1 (Decidable.not_not.1 hgt)
  split at h
  · injection h with h
    injection h with _ h
    injection h with _ h
    injection h with _ h
    injection h with _ h
    injection h with _ h
    rw [hdt2] at h
    subst h
    refine ⟨pre ++ l2.takeWhile bPart, ?_⟩
    rw [hp, List.append_assoc, ← ht2, tw_dw]
  · cases h

theorem agree_none {l : List UInt8} {z : Option (Int × Int × List Int × List UInt8)} (hz : z = none) (h : descSpec l = descZero) : Agree l z := .inl ⟨hz, h⟩
theorem last_cons {a : UInt8} {l : List UInt8} (h : l ≠ []) : (a :: l).getLast? = l.getLast? := by
  cases l with
  | nil => exact absurd rfl h
  | cons b l => rw [List.getLast?_cons_cons]
theorem last_is {l : List UInt8} (h : l.getLast? = some 62) : ∃ inner, l = inner ++ [62] := List.getLast?_eq_some_iff.1 h

/-- What the program makes of a string that begins as a memory or an array type does. -/
theorem desc_shape {l r : List UInt8} {k : Int} (hk : kindSpec l = (k, true, 60 :: r)) (h23 : k = 2 ∨ k = 3) : descSpec l = if 60 < l.length then descZero else
    match shapeSpec (60 :: r) with
    | some (n, e0, e1, e2, el, q) => if q = [] then ⟨k, 0, n, e0, e1, e2, el⟩ else descZero
    | none => descZero := by
  rw [descSpec, hk]
  have h1 : ¬ k = 1 := by omega
  simp only [Bool.true_eq_false, if_false, h1, h23, if_true]
  rfl

theorem agree_shape {l inner : List UInt8} {k : Int} (hk : kindSpec l = (k, true, 60 :: (inner ++ [62]))) (h23 : k = 2 ∨ k = 3) (hlen : l.length = inner.length + 5) :
    Agree l (match extsR 3 inner [] with
      | none => none
      | some (es, l2) => if (numberR l2).2.2 = true ∧ prodL es ≤ 4096 then some (k, 0, es, l2) else none) := by
  have hd := desc_shape hk h23
  have hz : (shapeSpec (60 :: (inner ++ [62])) = none ∨ ∃ n e0 e1 e2 el q, shapeSpec (60 :: (inner ++ [62])) = some (n, e0, e1, e2, el, q) ∧ q ≠ []) → descSpec l = descZero := by
    intro h
    rw [hd]
    split
    · rfl
    · rcases h with h | ⟨n, e0, e1, e2, el, q, h, hq⟩
      · rw [h]
      · rw [h]
        simp only [hq, if_false]
  have hp := paired 3 inner 0 0 0 0 rfl
  unfold Paired at hp
  rw [List.take_zero] at hp
  by_cases h60 : inner.head? = some 60
  · obtain ⟨t, rfl⟩ : ∃ t, inner = 60 :: t := by
      cases inner with
      | nil => cases h60
      | cons a t => rw [List.head?_cons] at h60; cases h60; exact ⟨t, rfl⟩
    have he : extsR 3 (60 :: t) [] = some ([], 60 :: t) := by rw [extsR_eq, if_pos (show headDigit (60 :: t) = false from (by decide : bDigit 60 = false))]
    rw [he]
    dsimp only
    rw [number_head (by simp)]
    refine agree_none (by simp) (hz (.inl ?_))
    unfold shapeSpec
    rw [if_pos]
    intro h
    obtain ⟨t', ht, hh, _⟩ := (run_iff (x := 60) (by decide) _).1 h
    injection ht with _ ht
    rw [← ht] at hh
    exact hh rfl
  · have hrun : (60 :: (inner ++ [62])).takeWhile (bIs 60) = [60] ∧ (60 :: (inner ++ [62])).dropWhile (bIs 60) = inner ++ [62] := by
      cases inner with
      | nil => exact ⟨by decide, by decide⟩
      | cons a t =>
        have ha : bIs 60 a = false := by
          cases hb : bIs 60 a
          · rfl
          · exact absurd (congrArg some ((is_iff (x := 60) (by decide) a).1 hb)) (by simpa using h60)
        simp [show bIs 60 60 = true by decide, ha]
    have hs : ∀ z, shapeLoop 3 (inner ++ [62]) 0 0 0 0 = z → shapeSpec (60 :: (inner ++ [62])) = match z with
        | none => none
        | some (r, e0, e1, e2, l2) =>
          if numB (l2.takeWhile bPart) = false then none
          else if ¬ (l2.dropWhile bPart).takeWhile (bIs 62) = [62] then none
          else if prodN r e0 e1 e2 ≤ 4096 then some (r, e0, e1, e2, l2.takeWhile bPart, (l2.dropWhile bPart).dropWhile (bIs 62))
          else none := by
      intro z hz
      subst hz
      unfold shapeSpec
      rw [if_neg (fun h => h hrun.1), hrun.2]
      rfl
    rcases hp with ⟨he, hl⟩ | ⟨es, l2, he, hh, hl⟩ | ⟨n, x0, x1, x2, l2, hn, he, hl⟩
    · rw [he]
      exact agree_none rfl (hz (.inl (hs _ hl)))
    · rw [he]
      dsimp only
      rw [number_head (by rw [hh]; decide)]
      exact agree_none (by simp) (hz (.inl (hs _ hl)))
    · have hsz := hs _ hl
      have hsn := tw_snoc (p := bPart) (c := 62) (by decide) l2
      simp only [hsn.1, hsn.2] at hsz
      rw [he]
      simp only [prodL_take hn]
      by_cases hnum : (numberR l2).2.2 = true
      · have hlen2 := exts_len _ _ _ _ _ he
        obtain ⟨h10, hpart⟩ := number_len hnum
        obtain ⟨ha, hb⟩ := tw_all hpart
        have hr62 : ([] ++ [62] : List UInt8).takeWhile (bIs 62) = [62] ∧ ([] ++ [62] : List UInt8).dropWhile (bIs 62) = [] := ⟨by decide, by decide⟩
        rw [ha, hb, numB_numberR, hnum, hr62.1, hr62.2, if_neg (by decide), if_neg (fun h => h rfl)] at hsz
        by_cases hpr : prodN n x0 x1 x2 ≤ 4096
        · rw [if_pos ⟨hnum, hpr⟩]
          rw [if_pos hpr] at hsz
          refine .inr ⟨k, 0, n, x0, x1, x2, l2, hn, rfl, ?_, by omega⟩
          rw [hd, if_neg (by omega), hsz]
          rfl
        · rw [if_neg (fun h => hpr h.2)]
          rw [if_neg hpr] at hsz
          exact agree_none rfl (hz (.inl hsz))
      · rw [if_neg (fun h => hnum h.1)]
        refine agree_none rfl (hz ?_)
        by_cases hB : numB (l2.takeWhile bPart) = false
        · rw [if_pos hB] at hsz
          exact .inl hsz
        rw [if_neg hB] at hsz
        by_cases hG : (l2.dropWhile bPart ++ [62]).takeWhile (bIs 62) = [62]
        · rw [if_neg (fun h => h hG)] at hsz
          by_cases hpr : prodN n x0 x1 x2 ≤ 4096
          · rw [if_pos hpr] at hsz
            refine .inr ⟨_, _, _, _, _, _, hsz, fun hq => ?_⟩
            obtain ⟨t, ht, _, hdt⟩ := (run_iff (x := 62) (by decide) _).1 hG
            rw [hq] at hdt
            subst hdt
            have h0 : l2.dropWhile bPart = [] := by
              have := congrArg List.length ht
              simp only [List.length_append, List.length_cons, List.length_nil] at this
              exact List.eq_nil_of_length_eq_zero (by omega)
            rw [(tw_all (dw_nil_all h0)).1, numB_numberR] at hB
            exact hnum (by simpa using hB)
          · rw [if_neg hpr] at hsz
            exact .inl hsz
        · rw [if_pos hG] at hsz
          exact .inl hsz

theorem word_kind {W r : List UInt8} (hW : W = [97, 114, 114] ∨ W = [109, 101, 109]) : kindSpec (W ++ 60 :: r) = (kindNum W, true, 60 :: r) := by
  have h60 : bLetter 60 = false := by decide
  rcases hW with rfl | rfl
  · simp [kindSpec, h60, show bLetter 97 = true by decide, show bLetter 114 = true by decide, kindOk]
  · simp [kindSpec, h60, show bLetter 109 = true by decide, show bLetter 101 = true by decide, kindOk]

set_option maxRecDepth 10000 in
theorem agree (l : List UInt8) : Agree l (readR l) := by
  cases l with
  | nil => exact agree_none (by decide) (by kernel_rfl)
  | cons c t =>
    by_cases h105 : c = 105
    · subst h105
      have hd := desc_i t
      by_cases hn : (numberR (105 :: t)).2.2 = true
      · rw [if_pos hn] at hd
        refine .inr ⟨_, _, 0, 0, 0, 0, [], by omega, by rw [readR, if_pos hn]; rfl, hd, ?_⟩
        rintro ⟨h1, h2⟩
        have hb := numB_numberR (105 :: t)
        rw [hn, desc_num hd, h2] at hb
        exact absurd hb (by decide)
      · rw [if_neg hn] at hd
        refine agree_none ?_ hd
        rw [readR, if_neg hn, if_neg (by simp), if_pos]
        refine .inr (.inl ⟨?_, ?_⟩) <;> intro h <;> rw [List.take_succ_cons] at h <;> cases h
    have hn : numberR (c :: t) = (0, false, false) := number_head (by simpa using h105)
    by_cases h33 : c = 33
    · subst h33
      have hd := desc_f t
      cases t with
      | nil => exact agree_none (by decide) (by kernel_rfl)
      | cons a t =>
        by_cases hp : isPairR (a :: t) 59 = true
        · rw [if_pos hp] at hd
          refine .inr ⟨4, 0, 0, 0, 0, 0, [], by omega, ?_, hd, by omega⟩
          rw [readR, hn, if_neg (by decide), if_pos ⟨by simp, rfl⟩, List.tail_cons, if_pos hp]
          rfl
        · rw [if_neg hp] at hd
          refine agree_none ?_ hd
          rw [readR, hn, if_neg (by decide), if_pos ⟨by simp, rfl⟩, List.tail_cons, if_neg hp]
    have hr : readR (c :: t) = (if (c :: t).length < 5 ∨ ((c :: t).take 4 ≠ memW ∧ (c :: t).take 4 ≠ arrW) ∨ (c :: t).getLast? ≠ some 62 then none
        else match extsR 3 (((c :: t).drop 4).dropLast) [] with
          | none => none
          | some (es, l2) => if (numberR l2).2.2 = true ∧ prodL es ≤ 4096 then some (if (c :: t).take 4 = arrW then 3 else 2, 0, es, l2) else none : Option (Int × Int × List Int × List UInt8)) := by
      rw [readR, hn, if_neg (by decide), if_neg (by simpa using fun _ => h33)]
    rw [hr]
    have word : ∀ W : List UInt8, W = [97, 114, 114] ∨ W = [109, 101, 109] → (c :: t).take 4 = W ++ [60] → ∃ r, c :: t = W ++ 60 :: r := by
      intro W hW h
      refine ⟨(c :: t).drop 4, ?_⟩
      rw [show W ++ 60 :: (c :: t).drop 4 = W ++ [60] ++ (c :: t).drop 4 by simp, ← h, List.take_append_drop]
    have main : ∀ (W r : List UInt8), (W = [97, 114, 114] ∨ W = [109, 101, 109]) → c :: t = W ++ 60 :: r →
        Agree (c :: t) (if (c :: t).length < 5 ∨ ((c :: t).take 4 ≠ memW ∧ (c :: t).take 4 ≠ arrW) ∨ (c :: t).getLast? ≠ some 62 then none
        else match extsR 3 (((c :: t).drop 4).dropLast) [] with
          | none => none
          | some (es, l2) => if (numberR l2).2.2 = true ∧ prodL es ≤ 4096 then some (if (c :: t).take 4 = arrW then 3 else 2, 0, es, l2) else none) := by
      intro W r hW hl
      have hk := word_kind (r := r) hW
      rw [← hl] at hk
      have h23 : kindNum W = 2 ∨ kindNum W = 3 := by rcases hW with rfl | rfl <;> decide
      have h3 : W.length = 3 := by rcases hW with rfl | rfl <;> rfl
      have htk : (c :: t).take 4 = W ++ [60] := by
        rw [hl, show W ++ 60 :: r = (W ++ [60]) ++ r by simp, List.take_append_of_le_length (by simp [h3]), List.take_of_length_le (by simp [h3])]
      have hdr : (c :: t).drop 4 = r := by
        rw [hl, show W ++ 60 :: r = (W ++ [60]) ++ r by simp, List.drop_append_of_le_length (by simp [h3]), List.drop_of_length_le (by simp [h3]), List.nil_append]
      by_cases hlast : r.getLast? = some 62
      · obtain ⟨inner, rfl⟩ := last_is hlast
        have hlen : (c :: t).length = inner.length + 5 := by rw [hl]; simp [h3]; omega
        have hg : (c :: t).getLast? = some 62 := by rw [hl, show W ++ 60 :: (inner ++ [62]) = (W ++ 60 :: inner) ++ [62] by simp, List.getLast?_concat]
        rw [if_neg, hdr, List.dropLast_concat]
        · have := agree_shape hk h23 hlen
          have hkn : (if (c :: t).take 4 = arrW then (3 : Int) else 2) = kindNum W := by
            rw [htk]
            rcases hW with rfl | rfl <;> decide
          rw [hkn]
          exact this
        · rintro (h | ⟨h1, h2⟩ | h)
          · omega
          · rw [htk] at h1 h2
            rcases hW with rfl | rfl
            · exact h2 rfl
            · exact h1 rfl
          · exact h hg
      · rw [if_pos]
        · refine agree_none rfl ?_
          rw [desc_shape hk h23]
          split
          · rfl
          · split
            · rename_i hz
              split
              · rename_i hq
                subst hq
                obtain ⟨inner, hi⟩ := shape_ends hz
                exact absurd (by rw [hi, List.getLast?_concat]) hlast
              · rfl
            · rfl
        · by_cases hr0 : r = []
          · refine .inl ?_
            rw [hl, hr0]
            simp [h3]
          · refine .inr (.inr fun h => hlast ?_)
            rw [hl] at h
            rw [← h, List.getLast?_append]
            rw [last_cons hr0]
            cases hg : r.getLast? with
            | none => exact absurd (List.getLast?_eq_none_iff.1 hg) hr0
            | some x => rfl
    by_cases hm : (c :: t).take 4 = memW
    · obtain ⟨r, hl⟩ := word [109, 101, 109] (.inr rfl) hm
      exact main _ r (.inr rfl) hl
    by_cases ha : (c :: t).take 4 = arrW
    · obtain ⟨r, hl⟩ := word [97, 114, 114] (.inl rfl) ha
      exact main _ r (.inl rfl) hl
    rw [if_pos (.inr (.inl ⟨hm, ha⟩))]
    refine agree_none rfl ?_
    cases hk : (kindSpec (c :: t)).2.1
    · exact desc_none hk
    · rcases kind_cases hk with ⟨_, hrun, _⟩ | ⟨W, hW, h4, he⟩
      · obtain ⟨r, hr, _⟩ := (run_iff (x := 33) (by decide) _).1 hrun
        injection hr with hr _
        exact absurd hr h33
      · have hcat := tw_dw (p := bLetter) (c :: t)
        rw [hW] at hcat
        have shape : (W = [97, 114, 114] ∨ W = [109, 101, 109]) → descSpec (c :: t) = descZero := by
          intro hW2
          have h23 : kindNum W = 2 ∨ kindNum W = 3 := by rcases hW2 with rfl | rfl <;> decide
          have h1 : ¬ kindNum W = 1 := by omega
          rw [descSpec, he]
          simp only [Bool.true_eq_false, if_false, h1, h23, if_true]
          have hs : shapeSpec ((c :: t).dropWhile bLetter) = none := by
            unfold shapeSpec
            rw [if_pos]
            intro h
            obtain ⟨r, hr, _⟩ := (run_iff (x := 60) (by decide) _).1 h
            rw [hr] at hcat
            rcases hW2 with rfl | rfl
            · exact ha (by rw [← hcat]; rfl)
            · exact hm (by rw [← hcat]; rfl)
          rw [hs]
          simp only [ite_self]
        rcases h4 with h | h | h | h
        · exact shape (.inl h)
        · rw [h] at hcat
          injection hcat with hcat _
          exact absurd hcat.symm h105
        · rw [h] at hcat
          injection hcat with hcat _
          exact absurd hcat.symm h105
        · exact shape (.inr h)
end Go.Proofs.YtjkhjflemcljdaaGreatDoor
