/-
  What 'Make' writes is read as a type.
-/
import Derived.Test.YtjkhjflemcljdaaGreatDoorBF
namespace Go.Proofs.YtjkhjflemcljdaaGreatDoor
open Go.RowKit

theorem ofNat_digit {n : Nat} (h : n < 10) : (UInt8.ofNat (48 + n)).toNat = 48 + n := by
  rw [UInt8.toNat_ofNat']
  omega
theorem dec_more {n : Nat} (h : ¬ n < 10) : Lib.decDigits n = Lib.decDigits (n / 10) ++ [UInt8.ofNat (48 + n % 10)] := by rw [Lib.decDigits, dif_neg h]
theorem dec_all (n : Nat) : (Lib.decDigits n).all bDigit = true := by
  induction n using Nat.strongRecOn with
  | _ n ih =>
    by_cases h : n < 10
    · rw [Lib.decDigits_one h, List.all_cons, List.all_nil, Bool.and_true, digit_iff, ofNat_digit h]
      omega
    · rw [dec_more h, List.all_append, ih _ (by omega), Bool.true_and, List.all_cons, List.all_nil, Bool.and_true, digit_iff, ofNat_digit (Nat.mod_lt _ (by omega))]
      omega
theorem dec_val (n : Nat) : dvalFrom 0 (Lib.decDigits n) = n := by
  induction n using Nat.strongRecOn with
  | _ n ih =>
    by_cases h : n < 10
    · rw [Lib.decDigits_one h, dval_cons, ofNat_digit h]
      show 10 * 0 + (48 + n - 48) = n
      omega
    · rw [dec_more h, dval_snoc, ih _ (by omega), ofNat_digit (Nat.mod_lt _ (by omega))]
      omega
theorem dec_head (n : Nat) : 0 < n → (Lib.decDigits n).head? ≠ some 48 := by
  induction n using Nat.strongRecOn with
  | _ n ih =>
    intro h0
    by_cases h : n < 10
    · rw [Lib.decDigits_one h, List.head?_cons]
      intro e
      have := congrArg UInt8.toNat (Option.some.inj e)
      rw [ofNat_digit h] at this
      have h48 : (48 : UInt8).toNat = 48 := by decide
      omega
    · have hi := ih (n / 10) (by omega) (by omega)
      rw [dec_more h]
      cases hd : Lib.decDigits (n / 10) with
      | nil =>
        have := Lib.decDigits_length (n / 10)
        rw [hd] at this
        have := Lib.nDigits_pos (n / 10)
        simp at *
        omega
      | cons c t =>
        rw [hd] at hi
        exact hi
theorem numR_dec {n m : Nat} (h : n ≤ m) (hm : m < 1000000000) : numR (Lib.decDigits n) m = (n, true) := by
  have hl := Lib.decDigits_length n
  have hp := Lib.nDigits_pos n
  have h9 := nDig_le 8 n (by omega)
  rw [numR, if_neg, if_pos (dec_all n), dec_val, decide_eq_true h]
  rintro (e | e | ⟨e1, e2⟩)
  · rw [e] at hl
    simp at hl
    omega
  · omega
  · by_cases h0 : 0 < n
    · exact dec_head n h0 e2
    · obtain rfl : n = 0 := by omega
      rw [Lib.decDigits_one (by omega)] at e1
      simp at e1

theorem numB_head {l : List UInt8} (h : numB l = true) : ∃ t, l = 105 :: t := by
  rw [numB_numberR] at h
  cases l with
  | nil => exact absurd h (by decide)
  | cons c t =>
    by_cases hc : c = 105
    · exact ⟨t, by rw [hc]⟩
    · rw [number_head (by simpa using hc)] at h
      cases h

theorem exts_text : ∀ (es pre : List Int) (m : Nat) (el : List UInt8), (∀ x ∈ es, 0 ≤ x ∧ x ≤ 1000) → es.length ≤ m → headDigit el = false →
    extsR m (es.flatMap (fun x => Lib.itoa x ++ [120]) ++ el) pre = some (pre ++ es, el)
  | [], pre, m, el, _, _, hel => by
    rw [extsR_eq, List.flatMap_nil, List.nil_append, if_pos hel, List.append_nil]
  | x :: es, pre, m, el, hr, hm, hel => by
    obtain ⟨k, rfl⟩ : ∃ k, m = k + 1 := ⟨m - 1, by simp at hm; omega⟩
    have hx := hr x (by simp)
    obtain ⟨n, rfl⟩ : ∃ n : Nat, x = n := ⟨x.toNat, by omega⟩
    have hi : Lib.itoa (n : Int) = Lib.decDigits n := by rw [Lib.itoa, if_neg (by omega), Int.toNat_natCast]
    have ih := exts_text es (pre ++ [(n : Int)]) k el (fun y hy => hr y (by simp [hy])) (by simp at hm; omega) hel
    have hd := dec_all n
    have hnx : (Lib.decDigits n).all notX = true := all_imp hd digit_notX
    have hne : Lib.decDigits n ≠ [] := fun e => by
      have := Lib.decDigits_length n
      rw [e] at this
      have := Lib.nDigits_pos n
      simp at *
      omega
    have hL : (((n : Int) :: es).flatMap (fun x => Lib.itoa x ++ [120]) ++ el) = Lib.decDigits n ++ (120 :: (es.flatMap (fun x => Lib.itoa x ++ [120]) ++ el)) := by
      rw [List.flatMap_cons, hi]
      simp
    rw [hL]
    obtain ⟨h1, h2⟩ := tw_append (p := notX) (m := 120 :: (es.flatMap (fun x => Lib.itoa x ++ [120]) ++ el)) hnx
    have h120 : notX 120 = false := by decide
    rw [List.takeWhile_cons, h120] at h1
    rw [List.dropWhile_cons, h120] at h2
    simp only [Bool.false_eq_true, if_false, List.append_nil] at h1 h2
    have hhd : headDigit (Lib.decDigits n ++ (120 :: (es.flatMap (fun x => Lib.itoa x ++ [120]) ++ el))) = true := by
      cases hc : Lib.decDigits n with
      | nil => exact absurd hc hne
      | cons c t =>
        rw [hc, List.all_cons, Bool.and_eq_true] at hd
        exact hd.1
    have hn := numR_dec (n := n) (m := 1000) (by omega) (by omega)
    rw [extsR_eq, if_neg (by rw [hhd]; decide), h1, h2, hn, if_neg (by simp)]
    show extsR k (es.flatMap (fun x => Lib.itoa x ++ [120]) ++ el) (pre ++ [(n : Int)]) = _
    rw [ih, List.append_assoc]
    rfl

theorem head_mem : textHead 2 = memW ∧ textHead 3 = arrW := ⟨rfl, rfl⟩
theorem read_text {k : Int} (hk : k = 2 ∨ k = 3) {es : List Int} (h3 : es.length ≤ 3) (hr : ∀ x ∈ es, 0 ≤ x ∧ x ≤ 1000) {el : List UInt8} (hn : numB el = true) (hp : prodL es ≤ 4096) :
    readR (textHead k ++ es.flatMap (fun x => Lib.itoa x ++ [120]) ++ el ++ [62]) = some (k, 0, es, el) := by
  obtain ⟨t, ht⟩ := numB_head hn
  have hel : headDigit el = false := by rw [ht]; show bDigit 105 = false; decide
  have hext := exts_text es [] 3 el hr h3 hel
  have hn' : (numberR el).2.2 = true := by rw [← numB_numberR]; exact hn
  have h4 : (textHead k).length = 4 := by unfold textHead; split <;> rfl
  have hell : 1 ≤ el.length := by rw [ht]; simp
  obtain ⟨M, hM⟩ : ∃ M, M = es.flatMap (fun x => Lib.itoa x ++ [120]) ++ el := ⟨_, rfl⟩
  rw [← hM] at hext
  have hMl : 1 ≤ M.length := by rw [hM, List.length_append]; omega
  rw [show textHead k ++ es.flatMap (fun x => Lib.itoa x ++ [120]) ++ el ++ [62] = textHead k ++ (M ++ [62]) by rw [hM]; simp only [List.append_assoc]]
  have htk : (textHead k ++ (M ++ [62])).take 4 = textHead k := by rw [← h4, List.take_left]
  have hdr : (textHead k ++ (M ++ [62])).drop 4 = M ++ [62] := by rw [← h4, List.drop_left]
  have hhd : (textHead k ++ (M ++ [62])).head? = some 109 ∨ (textHead k ++ (M ++ [62])).head? = some 97 := by rcases hk with rfl | rfl <;> simp [textHead]
  have hnr : numberR (textHead k ++ (M ++ [62])) = (0, false, false) := number_head (by rcases hhd with h | h <;> rw [h] <;> decide)
  have hgl : (textHead k ++ (M ++ [62])).getLast? = some 62 := by rw [← List.append_assoc, List.getLast?_concat]
  have hlen : 5 ≤ (textHead k ++ (M ++ [62])).length := by rw [List.length_append, List.length_append, h4]; simp; omega
  rw [readR, hnr, if_neg (by decide), if_neg (by rintro ⟨_, h⟩; rcases hhd with h' | h' <;> rw [h'] at h <;> exact absurd h (by decide)), if_neg, hdr, List.dropLast_concat, hext, List.nil_append]
  · simp only
    rw [if_pos ⟨hn', hp⟩, htk]
    rcases hk with rfl | rfl
    · rw [if_neg (by decide)]
    · rw [if_pos (by decide)]
  · rintro (h | ⟨h1, h2⟩ | h)
    · omega
    · rw [htk] at h1 h2
      rcases hk with rfl | rfl
      · exact h1 rfl
      · exact h2 rfl
    · exact h hgl

/-- What 'Make' writes is a type of these parts. -/
theorem text_ty {k : Int} (hk : k = 2 ∨ k = 3) {es : List Int} (h3 : es.length ≤ 3) (hr : ∀ x ∈ es, 0 ≤ x ∧ x ≤ 1000) {el : ByteArray} (hn : numB el.data.toList = true) (hp : prodL es ≤ 4096) :
    ∃ (x0 x1 x2 : Int), [x0, x1, x2].take es.length = es ∧ Ty ⟨(textHead k ++ es.flatMap (fun x => Lib.itoa x ++ [120]) ++ el.data.toList ++ [62]).toArray⟩ k 0 es.length x0 x1 x2 el := by
  have h := read_text hk h3 hr hn hp
  rcases agree_ty ⟨(textHead k ++ es.flatMap (fun x => Lib.itoa x ++ [120]) ++ el.data.toList ++ [62]).toArray⟩ with ⟨h1, _⟩ | ⟨k', b, r, e0, e1, e2, el', hr3, h1, hT⟩
  · exact absurd (h.symm.trans h1) (by simp)
  · have h2 := h.symm.trans h1
    injection h2 with h2
    injection h2 with ek h2
    injection h2 with eb h2
    injection h2 with ees eel
    obtain rfl : el = el' := by apply ByteArray.ext; exact Array.ext' eel
    subst ek
    subst eb
    have hl : r = es.length := by
      have := congrArg List.length ees
      rw [List.length_take] at this
      simp at this
      omega
    subst hl
    exact ⟨e0, e1, e2, ees.symm, hT⟩
end Go.Proofs.YtjkhjflemcljdaaGreatDoor
