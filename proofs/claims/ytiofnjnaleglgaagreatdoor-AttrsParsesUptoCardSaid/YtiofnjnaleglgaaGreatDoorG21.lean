/-
  Texts of mine in one file: BF, JB, AtA, AtR.
-/
import Derived.Test.YtiofnjnaleglgaaGreatDoorG18
import Derived.Test.YtiofnjnaleglgaaGreatDoorG19
import Derived.Test.YtiofnjnaleglgaaGreatDoorG20
import Derived.Test.YtiofnjnaleglgaaGreatDoorG13
/-
  The law 'TypesShapes': it answers true, whatever its argument is.
-/
namespace Go.Proofs.YtiofnjnaleglgaaGreatDoor
open Go.RowKit

theorem made_text {k : Int} {r : Nat} (hr : r ≤ 3) {e0 e1 e2 : Int} (h0 : 0 ≤ e0 ∧ e0 ≤ 1000) (h1 : 0 ≤ e1 ∧ e1 ≤ 1000) (h2 : 0 ≤ e2 ∧ e2 ≤ 1000) {el : List UInt8} (hn : numB el = true) (hp : prodN r e0 e1 e2 ≤ 4096) :
    makeL k ([e0, e1, e2].take r) el = (0, textSpec k r ⟨e0, h0⟩ ⟨e1, h1⟩ ⟨e2, h2⟩ el) := by
  rw [show [e0, e1, e2].take r = ext3 r ⟨e0, h0⟩ ⟨e1, h1⟩ ⟨e2, h2⟩ from rfl, ← makeL_rest k hr, makeRest, if_neg (by rw [hn]; simp), if_neg (by show ¬ 4096 < prodN r e0 e1 e2; omega)]

theorem numB_size {el : ByteArray} (h : numB el.data.toList = true) : el.size ≤ 1000000 := by
  have := numB_len h
  rw [size_eq]
  omega
theorem range_take {es : List Int} {e0 e1 e2 : Int} {r : Nat} (h : es = [e0, e1, e2].take r) (h0 : 0 ≤ e0 ∧ e0 ≤ 1000) (h1 : 0 ≤ e1 ∧ e1 ≤ 1000) (h2 : 0 ≤ e2 ∧ e2 ≤ 1000) : ∀ x ∈ es, 0 ≤ x ∧ x ≤ 1000 := by
  intro x hx
  rw [h] at hx
  have := List.mem_of_mem_take hx
  simp only [List.mem_cons, List.not_mem_nil, or_false] at this
  rcases this with rfl | rfl | rfl
  · exact h0
  · exact h1
  · exact h2

end Go.Proofs.YtiofnjnaleglgaaGreatDoor

/-
  What 'Make' writes is read as a type.
-/
namespace Go.Proofs.YtiofnjnaleglgaaGreatDoor
open Go.RowKit

theorem ofNat_digit {n : Nat} (h : n < 10) : (UInt8.ofNat (48 + n)).toNat = 48 + n := by
  rw [UInt8.toNat_ofNat']
  omega
theorem dec_more {n : Nat} (h : ¬ n < 10) : Lib.decDigits n = Lib.decDigits (n / 10) ++ [UInt8.ofNat (48 + n % 10)] := by rw [Lib.decDigits, dif_neg h]
theorem dec_all (n : Nat) : (Lib.decDigits n).all bDigit = true := by
  induction n using Nat.strongRecOn with
  | _ n ih =>
    by_cases h : n < 10
    · rw [Lib.decDigits_one h, List.all_cons, List.all_nil, Bool.and_true, digit_iff, ofNat_digit h]
      omega
    · rw [dec_more h, List.all_append, ih _ (by omega), Bool.true_and, List.all_cons, List.all_nil, Bool.and_true, digit_iff, ofNat_digit (Nat.mod_lt _ (by omega))]
      omega
theorem dec_val (n : Nat) : dvalFrom 0 (Lib.decDigits n) = n := by
  induction n using Nat.strongRecOn with
  | _ n ih =>
    by_cases h : n < 10
    · rw [Lib.decDigits_one h, dval_cons, ofNat_digit h]
      show 10 * 0 + (48 + n - 48) = n
      omega
    · rw [dec_more h, dval_snoc, ih _ (by omega), ofNat_digit (Nat.mod_lt _ (by omega))]
      omega
theorem dec_head (n : Nat) : 0 < n → (Lib.decDigits n).head? ≠ some 48 := by
  induction n using Nat.strongRecOn with
  | _ n ih =>
    intro h0
    by_cases h : n < 10
    · rw [Lib.decDigits_one h, List.head?_cons]
      intro e
      have := congrArg UInt8.toNat (Option.some.inj e)
      rw [ofNat_digit h] at this
      have h48 : (48 : UInt8).toNat = 48 := by decide
      omega
    · have hi := ih (n / 10) (by omega) (by omega)
      rw [dec_more h]
      cases hd : Lib.decDigits (n / 10) with
      | nil =>
        have := Lib.decDigits_length (n / 10)
        rw [hd] at this
        have := Lib.nDigits_pos (n / 10)
        simp at *
        omega
      | cons c t =>
        rw [hd] at hi
        exact hi
theorem numR_dec {n m : Nat} (h : n ≤ m) (hm : m < 1000000000) : numR (Lib.decDigits n) m = (n, true) := by
  have hl := Lib.decDigits_length n
  have hp := Lib.nDigits_pos n
  have h9 := nDig_le 8 n (by omega)
  rw [numR, if_neg, if_pos (dec_all n), dec_val, decide_eq_true h]
  rintro (e | e | ⟨e1, e2⟩)
  · rw [e] at hl
    simp at hl
    omega
  · omega
  · by_cases h0 : 0 < n
    · exact dec_head n h0 e2
    · obtain rfl : n = 0 := by omega
      rw [Lib.decDigits_one (by omega)] at e1
      simp at e1

theorem numB_head {l : List UInt8} (h : numB l = true) : ∃ t, l = 105 :: t := by
  rw [numB_numberR] at h
  cases l with
  | nil => exact absurd h (by decide)
  | cons c t =>
    by_cases hc : c = 105
    · exact ⟨t, by rw [hc]⟩
    · rw [number_head (by simpa using hc)] at h
      cases h

theorem exts_text : ∀ (es pre : List Int) (m : Nat) (el : List UInt8), (∀ x ∈ es, 0 ≤ x ∧ x ≤ 1000) → es.length ≤ m → headDigit el = false →
    extsR m (es.flatMap (fun x => Lib.itoa x ++ [120]) ++ el) pre = some (pre ++ es, el)
  | [], pre, m, el, _, _, hel => by
    rw [extsR_eq, List.flatMap_nil, List.nil_append, if_pos hel, List.append_nil]
  | x :: es, pre, m, el, hr, hm, hel => by
    obtain ⟨k, rfl⟩ : ∃ k, m = k + 1 := ⟨m - 1, by simp at hm; omega⟩
    have hx := hr x (by simp)
    obtain ⟨n, rfl⟩ : ∃ n : Nat, x = n := ⟨x.toNat, by omega⟩
    have hi : Lib.itoa (n : Int) = Lib.decDigits n := by rw [Lib.itoa, if_neg (by omega), Int.toNat_natCast]
    have ih := exts_text es (pre ++ [(n : Int)]) k el (fun y hy => hr y (by simp [hy])) (by simp at hm; omega) hel
    have hd := dec_all n
    have hnx : (Lib.decDigits n).all notX = true := all_imp hd digit_notX
    have hne : Lib.decDigits n ≠ [] := fun e => by
      have := Lib.decDigits_length n
      rw [e] at this
      have := Lib.nDigits_pos n
      simp at *
      omega
    have hL : (((n : Int) :: es).flatMap (fun x => Lib.itoa x ++ [120]) ++ el) = Lib.decDigits n ++ (120 :: (es.flatMap (fun x => Lib.itoa x ++ [120]) ++ el)) := by
      rw [List.flatMap_cons, hi]
      simp
    rw [hL]
    obtain ⟨h1, h2⟩ := tw_append (p := notX) (m := 120 :: (es.flatMap (fun x => Lib.itoa x ++ [120]) ++ el)) hnx
    have h120 : notX 120 = false := by decide
    rw [List.takeWhile_cons, h120] at h1
    rw [List.dropWhile_cons, h120] at h2
    simp only [Bool.false_eq_true, if_false, List.append_nil] at h1 h2
    have hhd : headDigit (Lib.decDigits n ++ (120 :: (es.flatMap (fun x => Lib.itoa x ++ [120]) ++ el))) = true := by
      cases hc : Lib.decDigits n with
      | nil => exact absurd hc hne
      | cons c t =>
        rw [hc, List.all_cons, Bool.and_eq_true] at hd
        exact hd.1
    have hn := numR_dec (n := n) (m := 1000) (by omega) (by omega)
    rw [extsR_eq, if_neg (by rw [hhd]; decide), h1, h2, hn, if_neg (by simp)]
    show extsR k (es.flatMap (fun x => Lib.itoa x ++ [120]) ++ el) (pre ++ [(n : Int)]) = _
    rw [ih, List.append_assoc]
    rfl

theorem head_mem : textHead 2 = memW ∧ textHead 3 = arrW := ⟨rfl, rfl⟩
theorem read_text {k : Int} (hk : k = 2 ∨ k = 3) {es : List Int} (h3 : es.length ≤ 3) (hr : ∀ x ∈ es, 0 ≤ x ∧ x ≤ 1000) {el : List UInt8} (hn : numB el = true) (hp : prodL es ≤ 4096) :
    readR (textHead k ++ es.flatMap (fun x => Lib.itoa x ++ [120]) ++ el ++ [62]) = some (k, 0, es, el) := by
  obtain ⟨t, ht⟩ := numB_head hn
  have hel : headDigit el = false := by rw [ht]; show bDigit 105 = false; decide
  have hext := exts_text es [] 3 el hr h3 hel
  have hn' : (numberR el).2.2 = true := by rw [← numB_numberR]; exact hn
  have h4 : (textHead k).length = 4 := by unfold textHead; split <;> rfl
  have hell : 1 ≤ el.length := by rw [ht]; simp
  obtain ⟨M, hM⟩ : ∃ M, M = es.flatMap (fun x => Lib.itoa x ++ [120]) ++ el := ⟨_, rfl⟩
  rw [← hM] at hext
  have hMl : 1 ≤ M.length := by rw [hM, List.length_append]; omega
  rw [show textHead k ++ es.flatMap (fun x => Lib.itoa x ++ [120]) ++ el ++ [62] = textHead k ++ (M ++ [62]) by rw [hM]; simp only [List.append_assoc]]
  have htk : (textHead k ++ (M ++ [62])).take 4 = textHead k := by rw [← h4, List.take_left]
  have hdr : (textHead k ++ (M ++ [62])).drop 4 = M ++ [62] := by rw [← h4, List.drop_left]
  have hhd : (textHead k ++ (M ++ [62])).head? = some 109 ∨ (textHead k ++ (M ++ [62])).head? = some 97 := by rcases hk with rfl | rfl <;> simp [textHead]
  have hnr : numberR (textHead k ++ (M ++ [62])) = (0, false, false) := number_head (by rcases hhd with h | h <;> rw [h] <;> decide)
  have hgl : (textHead k ++ (M ++ [62])).getLast? = some 62 := by rw [← List.append_assoc, List.getLast?_concat]
  have hlen : 5 ≤ (textHead k ++ (M ++ [62])).length := by rw [List.length_append, List.length_append, h4]; simp; omega
  rw [readR, hnr, if_neg (by decide), if_neg (by rintro ⟨_, h⟩; rcases hhd with h' | h' <;> rw [h'] at h <;> exact absurd h (by decide)), if_neg, hdr, List.dropLast_concat, hext, List.nil_append]
  · simp only
    rw [if_pos ⟨hn', hp⟩, htk]
    rcases hk with rfl | rfl
    · rw [if_neg (by decide)]
    · rw [if_pos (by decide)]
  · rintro (h | ⟨h1, h2⟩ | h)
    · omega
    · rw [htk] at h1 h2
      rcases hk with rfl | rfl
      · exact h1 rfl
      · exact h2 rfl
    · exact h hgl

/-- What 'Make' writes is a type of these parts. -/
theorem text_ty {k : Int} (hk : k = 2 ∨ k = 3) {es : List Int} (h3 : es.length ≤ 3) (hr : ∀ x ∈ es, 0 ≤ x ∧ x ≤ 1000) {el : ByteArray} (hn : numB el.data.toList = true) (hp : prodL es ≤ 4096) :
    ∃ (x0 x1 x2 : Int), [x0, x1, x2].take es.length = es ∧ Ty ⟨(textHead k ++ es.flatMap (fun x => Lib.itoa x ++ [120]) ++ el.data.toList ++ [62]).toArray⟩ k 0 es.length x0 x1 x2 el := by
  have h := read_text hk h3 hr hn hp
  rcases agree_ty ⟨(textHead k ++ es.flatMap (fun x => Lib.itoa x ++ [120]) ++ el.data.toList ++ [62]).toArray⟩ with ⟨h1, _⟩ | ⟨k', b, r, e0, e1, e2, el', hr3, h1, hT⟩
  · exact absurd (h.symm.trans h1) (by simp)
  · have h2 := h.symm.trans h1
    injection h2 with h2
    injection h2 with ek h2
    injection h2 with eb h2
    injection h2 with ees eel
    obtain rfl : el = el' := by apply ByteArray.ext; exact Array.ext' eel
    subst ek
    subst eb
    have hl : r = es.length := by
      have := congrArg List.length ees
      rw [List.length_take] at this
      simp at this
      omega
    subst hl
    exact ⟨e0, e1, e2, ees.symm, hT⟩
end Go.Proofs.YtiofnjnaleglgaaGreatDoor

/-
  Attributes as plain data: when one is right, the string of its value, and what their characters are.
-/
namespace Go.Proofs.YtiofnjnaleglgaaGreatDoor
open Go.RowKit

/-- An attribute. -/
structure At where
  name : ByteArray
  kind : Int
  num : Int
  text : ByteArray
  ints : List Int
  texts : List ByteArray

def At.zero : At := ⟨⟨#[]⟩, 0, 0, ⟨#[]⟩, [], []⟩

theorem At.ext' {a b : At} (h0 : a.name = b.name) (h1 : a.kind = b.kind) (h2 : a.num = b.num) (h3 : a.text = b.text) (h4 : a.ints = b.ints) (h5 : a.texts = b.texts) : a = b := by
  cases a; cases b; simp_all

def tysB (ss : List ByteArray) : Bool := ss.all fun s => isTy s.data.toList
def usesTextB (a : At) : Bool := (a.num == 0) && (a.ints.length == 0) && (a.texts.length == 0)
/-- Whether the fields are right for the kind. -/
def kindB (a : At) : Bool :=
  if a.kind = 0 then (a.text.size == 0) && (a.ints.length == 0) && (a.texts.length == 0)
  else if a.kind = 1 then usesTextB a && decide (a.text.size ≤ 1000)
  else if a.kind = 2 then usesTextB a && isNameR a.text.data.toList
  else if a.kind = 3 then usesTextB a && isTy a.text.data.toList
  else if a.kind = 4 then (a.num == 0) && (a.text.size == 0) && (a.texts.length == 0) && decide (a.ints.length ≤ 100)
  else if a.kind = 5 then (a.num == 0) && (a.text.size == 0) && (a.ints.length == 0) && decide (a.texts.length ≤ 100) && tysB a.texts
  else false
/-- Whether an attribute is right. -/
def rightB (a : At) : Bool := isNameR a.name.data.toList && kindB a

def hexD (n : Nat) : UInt8 := if n < 10 then UInt8.ofNat (48 + n) else UInt8.ofNat (87 + n)
/-- What stands for a byte in the string of a text. -/
def quoteB (b : UInt8) : List UInt8 :=
  if b.toNat = 34 then [92, 34] else if b.toNat = 92 then [92, 92] else if b.toNat = 10 then [92, 110]
  else if b.toNat < 32 ∨ 126 < b.toNat then [92, 120, hexD (b.toNat / 16), hexD (b.toNat % 16)] else [b]
def quoteL (t : List UInt8) : List UInt8 := 34 :: (t.flatMap quoteB ++ [34])
def intsL (zs : List Int) : List UInt8 := 91 :: (Lib.join (zs.map Lib.itoa) gap ++ [93])
/-- The string of the value of a right attribute. -/
def valueL (a : At) : List UInt8 :=
  if a.kind = 0 then Lib.itoa a.num
  else if a.kind = 1 then quoteL a.text.data.toList
  else if a.kind = 2 then 64 :: a.text.data.toList
  else if a.kind = 3 then a.text.data.toList
  else if a.kind = 4 then intsL a.ints
  else joinR (a.texts.map (·.data.toList))

/-- What stands for an attribute in the string of a list. -/
def itemL (a : At) : List UInt8 := a.name.data.toList ++ ([32, 61, 32] ++ valueL a)
def bodyL (l : List At) : List UInt8 := Lib.join (l.map itemL) gap
/-- The string of a list. -/
def listL (l : List At) : List UInt8 := if l = [] then [] else 123 :: (bodyL l ++ [125])

theorem size0 {s : ByteArray} (h : s.size = 0) : s = ⟨#[]⟩ := by
  apply ByteArray.ext
  apply Array.ext'
  rw [size_eq] at h
  exact List.eq_nil_of_length_eq_zero h
theorem len0 {α : Type} {l : List α} (h : (l.length == 0) = true) : l = [] := by
  cases l with
  | nil => rfl
  | cons a t => simp at h

/-- The kinds of a right attribute, one by one. -/
theorem right_cases {a : At} (h : rightB a = true) : isNameR a.name.data.toList = true ∧
    ((∃ n z, a = ⟨n, 0, z, ⟨#[]⟩, [], []⟩) ∨ (∃ n t, a = ⟨n, 1, 0, t, [], []⟩ ∧ t.size ≤ 1000) ∨ (∃ n t, a = ⟨n, 2, 0, t, [], []⟩ ∧ isNameR t.data.toList = true) ∨
      (∃ n t, a = ⟨n, 3, 0, t, [], []⟩ ∧ isTy t.data.toList = true) ∨ (∃ n zs, a = ⟨n, 4, 0, ⟨#[]⟩, zs, []⟩ ∧ zs.length ≤ 100) ∨
      (∃ n ss, a = ⟨n, 5, 0, ⟨#[]⟩, [], ss⟩ ∧ ss.length ≤ 100 ∧ tysB ss = true)) := by
  obtain ⟨n, k, z, t, zs, ss⟩ := a
  unfold rightB kindB usesTextB at h
  simp only [Bool.and_eq_true] at h
  refine ⟨h.1, ?_⟩
  have h := h.2
  by_cases h0 : k = 0
  · subst h0
    simp only [if_true, Bool.and_eq_true, beq_iff_eq] at h
    obtain ⟨⟨h1, h2⟩, h3⟩ := h
    obtain rfl := size0 h1
    obtain rfl := List.eq_nil_of_length_eq_zero h2
    obtain rfl := List.eq_nil_of_length_eq_zero h3
    exact .inl ⟨_, _, rfl⟩
  rw [if_neg h0] at h
  by_cases h1 : k = 1
  · subst h1
    simp only [if_true, Bool.and_eq_true, beq_iff_eq, decide_eq_true_iff] at h
    obtain ⟨⟨⟨h1, h2⟩, h3⟩, h4⟩ := h
    subst h1
    obtain rfl := List.eq_nil_of_length_eq_zero h2
    obtain rfl := List.eq_nil_of_length_eq_zero h3
    exact .inr (.inl ⟨_, _, rfl, h4⟩)
  rw [if_neg h1] at h
  by_cases h2 : k = 2
  · subst h2
    simp only [if_true, Bool.and_eq_true, beq_iff_eq] at h
    obtain ⟨⟨⟨h1, h2⟩, h3⟩, h4⟩ := h
    subst h1
    obtain rfl := List.eq_nil_of_length_eq_zero h2
    obtain rfl := List.eq_nil_of_length_eq_zero h3
    exact .inr (.inr (.inl ⟨_, _, rfl, h4⟩))
  rw [if_neg h2] at h
  by_cases h3 : k = 3
  · subst h3
    simp only [if_true, Bool.and_eq_true, beq_iff_eq] at h
    obtain ⟨⟨⟨h1, h2⟩, h3⟩, h4⟩ := h
    subst h1
    obtain rfl := List.eq_nil_of_length_eq_zero h2
    obtain rfl := List.eq_nil_of_length_eq_zero h3
    exact .inr (.inr (.inr (.inl ⟨_, _, rfl, h4⟩)))
  rw [if_neg h3] at h
  by_cases h4 : k = 4
  · subst h4
    simp only [if_true, Bool.and_eq_true, beq_iff_eq, decide_eq_true_iff] at h
    obtain ⟨⟨⟨h1, h2⟩, h3⟩, h4⟩ := h
    subst h1
    obtain rfl := size0 h2
    obtain rfl := List.eq_nil_of_length_eq_zero h3
    exact .inr (.inr (.inr (.inr (.inl ⟨_, _, rfl, h4⟩))))
  rw [if_neg h4] at h
  by_cases h5 : k = 5
  · subst h5
    simp only [if_true, Bool.and_eq_true, beq_iff_eq, decide_eq_true_iff] at h
    obtain ⟨⟨⟨⟨h1, h2⟩, h3⟩, h4⟩, h5⟩ := h
    subst h1
    obtain rfl := size0 h2
    obtain rfl := List.eq_nil_of_length_eq_zero h3
    exact .inr (.inr (.inr (.inr (.inr ⟨_, _, rfl, h4, h5⟩))))
  rw [if_neg h5] at h
  cases h

theorem quoteB_len (b : UInt8) : (quoteB b).length ≤ 4 := by
  unfold quoteB
  split
  · simp
  split
  · simp
  split
  · simp
  split
  · simp
  · simp
theorem quotes_len : ∀ t : List UInt8, (t.flatMap quoteB).length ≤ 4 * t.length
  | [] => by simp
  | b :: t => by
    have := quotes_len t
    have := quoteB_len b
    rw [List.flatMap_cons, List.length_append, List.length_cons]
    omega
end Go.Proofs.YtiofnjnaleglgaaGreatDoor

/-
  When the fields of an attribute are right for its kind, method by method; without the ones that call package types.
-/
namespace Go.Proofs.YtiofnjnaleglgaaGreatDoor
open Go.RowKit

theorem alloc_below (w : World) (o : Obj) : Below w.heap.size w (w.alloc o) := (Below.refl _ _).alloc (Nat.le_refl _) _
theorem toList_ne {t : ByteArray} (h : ¬ t = ByteArray.empty) : ¬ t.toList = [] := by
  intro e
  apply h
  rw [toList_data] at e
  apply ByteArray.ext; apply Array.ext'; rw [e]; rfl
theorem size_ne {t : ByteArray} (h : ¬ t = ByteArray.empty) : (t.size == 0) = false := by
  rw [beq_eq_false_iff_ne]
  intro e
  apply toList_ne h
  rw [toList_data]
  rw [size_eq] at e
  exact List.eq_nil_of_length_eq_zero e
theorem empty_size (t : ByteArray) : t.toList.isEmpty = (t.size == 0) := by
  cases h : t.toList.isEmpty with
  | true =>
    have := empty_of h
    rw [size_eq, this]; rfl
  | false =>
    have := nonempty_of h
    symm
    rw [beq_eq_false_iff_ne]
    intro e
    rw [size_eq] at e
    exact this (List.eq_nil_of_length_eq_zero e)

/-- A block of six cells, none frozen. -/
theorem cells6 {w : World} {b : Nat} {T : TypeId} {v0 v1 v2 v3 v4 v5 : Value} (h : w.heap[b]? = some (.cells #[v0, v1, v2, v3, v4, v5] T (0, 0))) :
    w.cell? ⟨b, 0, none⟩ = some v0 ∧ w.cell? ⟨b, 1, none⟩ = some v1 ∧ w.cell? ⟨b, 2, none⟩ = some v2 ∧ w.cell? ⟨b, 3, none⟩ = some v3 ∧ w.cell? ⟨b, 4, none⟩ = some v4 ∧ w.cell? ⟨b, 5, none⟩ = some v5 ∧
      ∀ j, w.frozen? ⟨b, j, none⟩ = false := by
  refine ⟨?_, ?_, ?_, ?_, ?_, ?_, fun j => ?_⟩ <;> simp [World.cell?, World.frozen?, h]

section
variable (nm : ByteArray) (k z : Int) (t : ByteArray) (ai : Option Addr) (n ci : Nat) (ao : Option Addr) (m ct : Nat) (w : World)

set_option maxHeartbeats 400000 in
set_option maxRecDepth 100000 in
theorem usesText_any : Calls Tryz.prog 120 #[.agg #[.string nm, .int .i64 k, .int .i64 z, .string t, .slice ai n ci, .slice ao m ct]] w
    fun e w' => e = .returned (.bool ((z == 0) && (n == 0) && (m == 0))) ∧ Below w.heap.size w w' := by
  by_cases hz : z = 0
  · subst hz
    by_cases hn : n = 0
    · subst hn
      by_cases hm : m = 0
      · subst hm
        go_enter Tryz.func120, Tryz.ntmps120
        go_wp2_with fail
        go_ret
        exact ⟨rfl, alloc_below _ _⟩
      · have hm' : ((m : Int) == 0) = false := by rw [beq_eq_false_iff_ne]; omega
        have hf := Lib.hid (show ((0 : Int) == 0 && (0 : Nat) == 0 && m == 0) = false by simp [hm])
        go_enter Tryz.func120, Tryz.ntmps120
        go_wp2_with fail
        go_ret
        exact ⟨by first | (rw [hf.out]; rfl) | rfl, alloc_below _ _⟩
    · have hn' : ((n : Int) == 0) = false := by rw [beq_eq_false_iff_ne]; omega
      have hf := Lib.hid (show ((0 : Int) == 0 && n == 0 && m == 0) = false by simp [hn])
      go_enter Tryz.func120, Tryz.ntmps120
      go_wp2_with fail
      go_ret
      exact ⟨by first | (rw [hf.out]; rfl) | rfl, alloc_below _ _⟩
  · have hf := Lib.hid (show (z == 0 && n == 0 && m == 0) = false by simp [hz])
    go_enter Tryz.func120, Tryz.ntmps120
    go_wp2_with fail
    go_ret
    exact ⟨by first | (rw [hf.out]; rfl) | rfl, alloc_below _ _⟩

set_option maxHeartbeats 400000 in
set_option maxRecDepth 100000 in
theorem rightInt_any : Calls Tryz.prog 92 #[.agg #[.string nm, .int .i64 k, .int .i64 z, .string t, .slice ai n ci, .slice ao m ct]] w
    fun e w' => e = .returned (.bool ((t.size == 0) && (n == 0) && (m == 0))) ∧ Below w.heap.size w w' := by
  by_cases hs : t = ByteArray.empty
  rotate_left
  · have h0 := size_ne hs
    have hs2 := toList_ne hs
    have hf := Lib.hid (show ((t.size == 0) && (n == 0) && (m == 0)) = false by rw [h0]; simp)
    go_enter Tryz.func92, Tryz.ntmps92
    go_wp2_with fail
    go_ret
    exact ⟨by first | (rw [hf.out]; rfl) | rfl, alloc_below _ _⟩
  subst hs
  by_cases hn : n = 0
  rotate_left
  · have hx : ((n : Int) == 0) = false := by rw [beq_eq_false_iff_ne]; omega
    have hf := Lib.hid (show ((ByteArray.empty.size == 0) && (n == 0) && (m == 0)) = false by simp [hn])
    go_enter Tryz.func92, Tryz.ntmps92
    go_wp2_with fail
    go_ret
    exact ⟨by first | (rw [hf.out]; rfl) | rfl, alloc_below _ _⟩
  subst hn
  by_cases hm : m = 0
  rotate_left
  · have hx : ((m : Int) == 0) = false := by rw [beq_eq_false_iff_ne]; omega
    have hf := Lib.hid (show ((ByteArray.empty.size == 0) && ((0 : Nat) == 0) && (m == 0)) = false by simp [hm])
    go_enter Tryz.func92, Tryz.ntmps92
    go_wp2_with fail
    go_ret
    exact ⟨by first | (rw [hf.out]; rfl) | rfl, alloc_below _ _⟩
  subst hm
  have hf := Lib.hid (show (((ByteArray.empty).size == 0) && ((0 : Nat) == 0) && ((0 : Nat) == 0)) = true by rfl)
  go_enter Tryz.func92, Tryz.ntmps92
  go_wp2_with fail
  go_ret
  exact ⟨by first | (rw [hf.out]; rfl) | rfl, alloc_below _ _⟩

set_option maxHeartbeats 400000 in
set_option maxRecDepth 100000 in
theorem rightInts_any : Calls Tryz.prog 104 #[.agg #[.string nm, .int .i64 k, .int .i64 z, .string t, .slice ai n ci, .slice ao m ct]] w
    fun e w' => e = .returned (.bool ((z == 0) && (t.size == 0) && (m == 0) && decide (n ≤ 100))) ∧ Below w.heap.size w w' := by
  by_cases hz : z = 0
  rotate_left
  · have hf := Lib.hid (show ((z == 0) && (t.size == 0) && (m == 0) && decide (n ≤ 100)) = false by simp [hz])
    go_enter Tryz.func104, Tryz.ntmps104
    go_wp2_with fail
    go_ret
    exact ⟨by first | (rw [hf.out]; rfl) | rfl, alloc_below _ _⟩
  subst hz
  by_cases hs : t = ByteArray.empty
  rotate_left
  · have h0 := size_ne hs
    have hs2 := toList_ne hs
    have hf := Lib.hid (show (((0 : Int) == 0) && (t.size == 0) && (m == 0) && decide (n ≤ 100)) = false by rw [h0]; simp)
    go_enter Tryz.func104, Tryz.ntmps104
    go_wp2_with fail
    go_ret
    exact ⟨by first | (rw [hf.out]; rfl) | rfl, alloc_below _ _⟩
  subst hs
  by_cases hm : m = 0
  rotate_left
  · have hx : ((m : Int) == 0) = false := by rw [beq_eq_false_iff_ne]; omega
    have hf := Lib.hid (show (((0 : Int) == 0) && (ByteArray.empty.size == 0) && (m == 0) && decide (n ≤ 100)) = false by simp [hm])
    go_enter Tryz.func104, Tryz.ntmps104
    go_wp2_with fail
    go_ret
    exact ⟨by first | (rw [hf.out]; rfl) | rfl, alloc_below _ _⟩
  subst hm
  by_cases hn : n ≤ 100
  rotate_left
  · have hx : ¬ (n : Int) ≤ 100 := by omega
    have hf := Lib.hid (show (((0 : Int) == 0) && (ByteArray.empty.size == 0) && ((0 : Nat) == 0) && decide (n ≤ 100)) = false by simp [hn])
    go_enter Tryz.func104, Tryz.ntmps104
    go_wp2_with fail
    go_ret
    exact ⟨by first | (rw [hf.out]; rfl) | rfl, alloc_below _ _⟩
  have hx : (n : Int) ≤ 100 := by omega
  have hf := Lib.hid (show (((0 : Int) == 0) && ((ByteArray.empty).size == 0) && ((0 : Nat) == 0) && decide (n ≤ 100)) = true by rw [decide_eq_true hn]; rfl)
  go_enter Tryz.func104, Tryz.ntmps104
  go_wp2_with fail
  go_ret
  exact ⟨by first | (rw [hf.out]; rfl) | rfl, alloc_below _ _⟩

set_option maxHeartbeats 400000 in
set_option maxRecDepth 100000 in
theorem rightText_any : Calls Tryz.prog 95 #[.agg #[.string nm, .int .i64 k, .int .i64 z, .string t, .slice ai n ci, .slice ao m ct]] w
    fun e w' => e = .returned (.bool (((z == 0) && (n == 0) && (m == 0)) && decide (t.size ≤ 1000))) ∧ Below w.heap.size w w' := by
  generalize hu : ((z == 0) && (n == 0) && (m == 0)) = u
  have Hu := Lib.hid hu
  clear hu
  cases u
  · go_enter Tryz.func95, Tryz.ntmps95
    go_wp2_with fail
    refine (usesText_any nm k z t ai n ci ao m ct _).mono ?_
    rintro e w1 ⟨rfl, hb⟩
    have B1 := Lib.hid ((alloc_below _ _).trans (hb.mono (by simp)))
    clear hb
    rw [Hu.out]
    go_wp2_with fail
    go_ret
    exact ⟨rfl, B1.out⟩
  · have hd := Lib.hid (show decide ((t.size : Int) ≤ 1000) = decide (t.size ≤ 1000) from decide_eq_decide.2 (by omega))
    go_enter Tryz.func95, Tryz.ntmps95
    go_wp2_with fail
    have T0 := Lib.hid (heap_alloc_new w (.cells #[.string nm, .int .i64 k, .int .i64 z, .string t, .slice ai n ci, .slice ao m ct] 74))
    refine (usesText_any nm k z t ai n ci ao m ct _).mono ?_
    rintro e w1 ⟨rfl, hb⟩
    have T1 := (hb.block _ (lt_of_block T0.out)).trans T0.out
    have B1 := Lib.hid ((alloc_below _ _).trans (hb.mono (by simp)))
    obtain ⟨c0, c1, c2, c3, c4, c5, cf⟩ := cells6 T1
    clear hb T1
    rw [Hu.out]
    go_wp2_with fail
    go_ret
    exact ⟨by rw [← hd.out]; rfl, B1.out⟩

set_option maxHeartbeats 400000 in
set_option maxRecDepth 100000 in
theorem rightSymbol_any : Calls Tryz.prog 98 #[.agg #[.string nm, .int .i64 k, .int .i64 z, .string t, .slice ai n ci, .slice ao m ct]] w
    fun e w' => e = .returned (.bool (((z == 0) && (n == 0) && (m == 0)) && isNameR t.data.toList)) ∧ Below w.heap.size w w' := by
  generalize hu : ((z == 0) && (n == 0) && (m == 0)) = u
  have Hu := Lib.hid hu
  clear hu
  cases u
  · go_enter Tryz.func98, Tryz.ntmps98
    go_wp2_with fail
    refine (usesText_any nm k z t ai n ci ao m ct _).mono ?_
    rintro e w1 ⟨rfl, hb⟩
    have B1 := Lib.hid ((alloc_below _ _).trans (hb.mono (by simp)))
    clear hb
    rw [Hu.out]
    go_wp2_with fail
    go_ret
    exact ⟨rfl, B1.out⟩
  · go_enter Tryz.func98, Tryz.ntmps98
    go_wp2_with fail
    have T0 := Lib.hid (heap_alloc_new w (.cells #[.string nm, .int .i64 k, .int .i64 z, .string t, .slice ai n ci, .slice ao m ct] 74))
    refine (usesText_any nm k z t ai n ci ao m ct _).mono ?_
    rintro e w1 ⟨rfl, hb⟩
    have T1 := (hb.block _ (lt_of_block T0.out)).trans T0.out
    have B1 := Lib.hid ((alloc_below _ _).trans (hb.mono (by simp)))
    obtain ⟨c0, c1, c2, c3, c4, c5, cf⟩ := cells6 T1
    clear hb T1
    rw [Hu.out]
    go_wp2_with fail
    refine (aName_any t _).mono ?_
    rintro e w2 ⟨rfl, hb⟩
    have B2 := Lib.hid (B1.out.trans (hb.mono B1.out.size))
    clear hb
    go_wp2_with fail
    go_ret
    exact ⟨by rw [Bool.true_and]; rfl, B2.out⟩
end
end Go.Proofs.YtiofnjnaleglgaaGreatDoor

