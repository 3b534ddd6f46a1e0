/-
  Texts of mine in one file: AtB, AtC, AtD, AtI.
-/
import Derived.Test.YtiofnjnaleglgaaGreatDoorG21
import Derived.Test.YtiofnjnaleglgaaGreatDoorG24
/-
  The commas that part the attributes of a list: the ones that stand in no text and in no brackets.
-/
namespace Go.Proofs.YtiofnjnaleglgaaGreatDoor
open Go.RowKit

def closeOf (c : Nat) : Nat := if c = 34 then 34 else if c = 91 then 93 else if c = 40 then 41 else 0
/-- What is open behind a character, and whether the next one is escaped. -/
def encStep (s : Nat × Bool) (c : Nat) : Nat × Bool :=
  if s.2 = true then (s.1, false) else if s.1 = 0 then (closeOf c, false) else if c = 92 then (s.1, true) else if c = s.1 then (0, false) else (s.1, false)
/-- What is open behind a string in which no comma parts. -/
def scan : Nat × Bool → List UInt8 → Option (Nat × Bool)
  | s, [] => some s
  | s, c :: r => if (encStep s c.toNat).1 = 0 ∧ c.toNat = 44 then none else scan (encStep s c.toNat) r
theorem scan_cons (s : Nat × Bool) (c : UInt8) (r : List UInt8) : scan s (c :: r) = if (encStep s c.toNat).1 = 0 ∧ c.toNat = 44 then none else scan (encStep s c.toNat) r := rfl
theorem scan_append : ∀ (a b : List UInt8) (s : Nat × Bool), scan s (a ++ b) = (scan s a).bind fun s' => scan s' b
  | [], b, s => rfl
  | c :: a, b, s => by
    rw [List.cons_append, scan_cons, scan_cons]
    split
    · rfl
    · exact scan_append a b _
def clean (p : List UInt8) : Prop := scan (0, false) p = some (0, false)
theorem clean_append {a b : List UInt8} (ha : clean a) (hb : clean b) : clean (a ++ b) := by
  unfold clean at *
  rw [scan_append, ha]
  exact hb

/-- A character that opens nothing and parts nothing. -/
def plainC (c : UInt8) : Bool := !(c.toNat == 34 || c.toNat == 91 || c.toNat == 40 || c.toNat == 44)
theorem clean_plain : ∀ {l : List UInt8}, l.all plainC = true → clean l
  | [], _ => rfl
  | c :: l, h => by
    rw [List.all_cons, Bool.and_eq_true] at h
    have hc := h.1
    unfold plainC at hc
    simp only [Bool.not_eq_true', Bool.or_eq_false_iff, beq_eq_false_iff_ne] at hc
    obtain ⟨⟨⟨h1, h2⟩, h3⟩, h4⟩ := hc
    have e : encStep (0, false) c.toNat = (0, false) := by
      unfold encStep closeOf
      simp [h1, h2, h3]
    unfold clean
    rw [scan_cons, e, if_neg (fun h => h4 h.2)]
    exact clean_plain h.2

/-- Inside of brackets, a string without the closing one. -/
def insideC (z : Nat) (c : UInt8) : Bool := !(c.toNat == z || c.toNat == 92)
theorem scan_inside {z : Nat} (hz : z ≠ 0) : ∀ {l : List UInt8}, l.all (insideC z) = true → scan (z, false) l = some (z, false)
  | [], _ => rfl
  | c :: l, h => by
    rw [List.all_cons, Bool.and_eq_true] at h
    have hc := h.1
    unfold insideC at hc
    simp only [Bool.not_eq_true', Bool.or_eq_false_iff, beq_eq_false_iff_ne] at hc
    have e : encStep (z, false) c.toNat = (z, false) := by
      unfold encStep
      simp [hc.1, hc.2, hz]
    rw [scan_cons, e, if_neg (fun h => hz h.1)]
    exact scan_inside hz h.2

theorem byte_cases {p : UInt8 → Prop} (h : ∀ n, n < 256 → p (UInt8.ofNat n)) (b : UInt8) : p b := by
  have := h b.toNat b.toNat_lt
  rwa [UInt8.ofNat_toNat] at this
theorem scan_quoteB (b : UInt8) : scan (34, false) (quoteB b) = some (34, false) := by
  revert b
  refine byte_cases ?_
  decide +kernel
theorem scan_flat : ∀ t : List UInt8, scan (34, false) (t.flatMap quoteB) = some (34, false)
  | [] => rfl
  | b :: t => by rw [List.flatMap_cons, scan_append, scan_quoteB]; exact scan_flat t
theorem clean_quote (t : List UInt8) : clean (quoteL t) := by
  unfold clean quoteL
  rw [scan_cons, show encStep (0, false) (34 : UInt8).toNat = (34, false) by decide, if_neg (by decide), scan_append, scan_flat]
  rfl
theorem clean_ints {l : List UInt8} (h : l.all (insideC 93) = true) : clean (91 :: (l ++ [93])) := by
  unfold clean
  rw [scan_cons, show encStep (0, false) (91 : UInt8).toNat = (93, false) by decide, if_neg (by decide), scan_append, scan_inside (by decide) h]
  rfl
theorem clean_types {l : List UInt8} (h : l.all (insideC 41) = true) : clean (40 :: (l ++ [41])) := by
  unfold clean
  rw [scan_cons, show encStep (0, false) (40 : UInt8).toNat = (41, false) by decide, if_neg (by decide), scan_append, scan_inside (by decide) h]
  rfl

abbrev comma : List UInt8 := [44]
theorem joinC_more (x y : List UInt8) (r : List (List UInt8)) : Lib.join (x :: y :: r) comma = x ++ (44 :: Lib.join (y :: r) comma) := by
  rw [Lib.join_cons, Lib.join_cons]
  simp [Lib.joinTail]
/-- The pieces of a string between the commas that part it. -/
structure Canon (body : List UInt8) (ps : List (List UInt8)) : Prop where
  ne : ps ≠ []
  is : body = Lib.join ps comma
  all : ∀ p ∈ ps, clean p
  low : ∀ c ∈ body, c.toNat < 128

/-- How far the pieces of a string have been told apart: so many have come, and behind the last comma so many characters. -/
structure Told (body : List UInt8) (done : List (List UInt8)) (start j : Nat) (s : Nat × Bool) (p : List UInt8) (todo : List (List UInt8)) : Prop where
  front : ∃ f : List UInt8, f.length = start ∧ body = f ++ Lib.join (p :: todo) comma
  le : j ≤ p.length
  at_ : scan (0, false) (p.take j) = some s

theorem Told.start {body : List UInt8} {p : List UInt8} {todo : List (List UInt8)} (h : Canon body (p :: todo)) : Told body [] 0 0 (0, false) p todo :=
  ⟨⟨[], rfl, h.is⟩, Nat.zero_le _, rfl⟩

theorem join_head (p : List UInt8) (todo : List (List UInt8)) : ∃ r, Lib.join (p :: todo) comma = p ++ r ∧ ((todo = [] ∧ r = []) ∨ ∃ q t, todo = q :: t ∧ r = 44 :: Lib.join (q :: t) comma) := by
  cases todo with
  | nil => exact ⟨[], by rw [Lib.join_one, List.append_nil], .inl ⟨rfl, rfl⟩⟩
  | cons q t => exact ⟨_, joinC_more p q t, .inr ⟨q, t, rfl, rfl⟩⟩

section
variable {body : List UInt8} {done : List (List UInt8)} {st j : Nat} {s : Nat × Bool} {p : List UInt8} {todo : List (List UInt8)}

theorem Told.char (h : Told body done st j s p todo) (hj : j < p.length) : body[st + j]? = p[j]? := by
  obtain ⟨f, hf, hb⟩ := h.front
  obtain ⟨r, hr, _⟩ := join_head p todo
  rw [hb, hr, List.getElem?_append_right (by omega), hf, Nat.add_sub_cancel_left, List.getElem?_append_left hj]
theorem Told.step (h : Told body done st j s p todo) (hc : clean p) {c : UInt8} (hj : p[j]? = some c) : ¬ ((encStep s c.toNat).1 = 0 ∧ c.toNat = 44) ∧ Told body done st (j + 1) (encStep s c.toNat) p todo := by
  have hlt : j < p.length := (List.getElem?_eq_some_iff.1 hj).1
  have e : p = p.take j ++ c :: p.drop (j + 1) := by
    conv => lhs; rw [← List.take_append_drop j p, List.drop_eq_getElem_cons hlt]
    rw [(List.getElem?_eq_some_iff.1 hj).2]
  have h1 : scan (0, false) p = some (0, false) := hc
  rw [e, scan_append, h.at_, Option.bind_some, scan_cons] at h1
  have hn : ¬ ((encStep s c.toNat).1 = 0 ∧ c.toNat = 44) := by
    intro hx
    rw [if_pos hx] at h1
    cases h1
  refine ⟨hn, h.front, hlt, ?_⟩
  rw [List.take_add_one, hj, scan_append, h.at_, Option.bind_some]
  show scan s [c] = _
  rw [scan_cons, if_neg hn]
  rfl
theorem Told.full (h : Told body done st p.length s p todo) (hc : clean p) : s = (0, false) := by
  have h1 := h.at_
  rw [List.take_length] at h1
  have h2 : scan (0, false) p = some (0, false) := hc
  exact Option.some.inj (h1.symm.trans h2)
/-- Behind a piece: the string's end, or a comma that parts. -/
theorem Told.behind (h : Told body done st p.length s p todo) (hc : clean p) :
    (todo = [] ∧ body.length = st + p.length ∧ body.drop st = p) ∨ (∃ q t, todo = q :: t ∧ body[st + p.length]? = some 44 ∧ encStep s 44 = (0, false) ∧ (body.drop st).take p.length = p ∧ Told body (done ++ [p]) (st + p.length + 1) 0 (0, false) q t) := by
  have hs := h.full hc
  obtain ⟨f, hf, hb⟩ := h.front
  obtain ⟨r, hr, hq | ⟨q, t, rfl, hq⟩⟩ := join_head p todo
  · left
    rw [hr, hq.2, List.append_nil] at hb
    refine ⟨hq.1, by rw [hb, List.length_append]; omega, by rw [hb, ← hf, List.drop_left]⟩
  · right
    rw [hr, hq] at hb
    refine ⟨q, t, rfl, ?_, by rw [hs]; decide, by rw [hb, ← hf, List.drop_left, List.take_left], ⟨⟨f ++ p ++ [44], ?_, ?_⟩, Nat.zero_le _, rfl⟩⟩
    · rw [hb, ← List.append_assoc, List.getElem?_append_right (by rw [List.length_append]; omega), List.length_append, hf]
      simp
    · simp [hf]; omega
    · rw [hb]; simp
end
end Go.Proofs.YtiofnjnaleglgaaGreatDoor

/-
  What characters names, types and values are made of; that values are clean, and their first characters.
-/
namespace Go.Proofs.YtiofnjnaleglgaaGreatDoor
open Go.RowKit

/-! ### The characters of a type -/
def tyC (c : UInt8) : Bool := bPart c || c.toNat == 33 || c.toNat == 46 || c.toNat == 60 || c.toNat == 62
theorem part_ty (c : UInt8) (h : bPart c = true) : tyC c = true := by unfold tyC; rw [h]; rfl
theorem x_ty : ∀ x : UInt8, notX x = false → tyC x = true := by
  refine byte_cases ?_
  decide +kernel
theorem dot_ty : ∀ x : UInt8, notDot x = false → tyC x = true := by
  refine byte_cases ?_
  decide +kernel
theorem exts_ty : ∀ (m : Nat) (l : List UInt8) (es es' : List Int) (l2 : List UInt8), extsR m l es = some (es', l2) → l2.all tyC = true → l.all tyC = true := by
  intro m
  induction m with
  | zero =>
    intro l es es' l2 h h2
    rw [extsR_eq] at h
    split at h
    · injection h with h
      injection h with _ h
      rw [h]; exact h2
    · split at h <;> cases h
  | succ m ih =>
    intro l es es' l2 h h2
    rw [extsR_eq] at h
    split at h
    · injection h with h
      injection h with _ h
      rw [h]; exact h2
    · split at h
      · cases h
      · rename_i hc
        have h3 := ih _ _ _ _ h h2
        rw [← tw_dw (p := notX) l]
        refine all_append ?_ ?_
        · cases hn : (numR (l.takeWhile notX) 1000).2
          · exact absurd (.inl hn) hc
          · exact all_imp (numR_yes hn).1 (fun c hc => part_ty c ((part_iff c).2 (.inr (.inl ((digit_iff c).1 hc)))))
        · cases hd : l.dropWhile notX with
          | nil => rfl
          | cons x t =>
            rw [hd, List.tail_cons] at h3
            have hx := dw_head hd
            rw [List.all_cons, h3, Bool.and_true]
            exact x_ty x hx

theorem name_ty {l : List UInt8} (h : isNameR l = true) : l.all tyC = true := all_imp ((isNameR_iff l).1 h).2.2 part_ty
theorem pair_ty {l : List UInt8} {m : Nat} (h : isPairR l m = true) : l.all tyC = true := by
  unfold isPairR at h
  simp only [Bool.and_eq_true] at h
  obtain ⟨⟨⟨_, hne⟩, h1⟩, h2⟩ := h
  rw [← tw_dw (p := notDot) l]
  refine all_append (name_ty h1) ?_
  cases hd : l.dropWhile notDot with
  | nil => rfl
  | cons x t =>
    have hx := dw_head hd
    rw [hd, List.tail_cons] at h2
    rw [List.all_cons, name_ty h2, Bool.and_true]
    exact dot_ty x hx
theorem ty_all {l : List UInt8} (h : isTyR l = true) : l.all tyC = true := by
  unfold isTyR readR at h
  split at h
  · rename_i hn
    exact all_imp (number_len hn).2 part_ty
  split at h
  · rename_i h33
    split at h
    · rename_i hp
      cases l with
      | nil => rfl
      | cons c t =>
        have : c = 33 := by simpa using h33.2
        subst this
        rw [List.all_cons, show t.all tyC = true from pair_ty hp]; rfl
    · cases h
  split at h
  · cases h
  rename_i hc
  have hc1 : ¬ l.length < 5 := fun e => hc (.inl e)
  have hc2 : l.take 4 = memW ∨ l.take 4 = arrW := by
    by_cases a : l.take 4 = memW
    · exact .inl a
    · by_cases b : l.take 4 = arrW
      · exact .inr b
      · exact absurd (.inr (.inl ⟨a, b⟩)) hc
  have hc3 : l.getLast? = some 62 := by
    by_cases a : l.getLast? = some 62
    · exact a
    · exact absurd (.inr (.inr a)) hc
  split at h
  · cases h
  rename_i es l2 he
  split at h
  rotate_left
  · cases h
  rename_i hn
  have hmid := exts_ty _ _ _ _ _ he (all_imp (number_len hn.1).2 part_ty)
  rw [← List.take_append_drop 4 l]
  refine all_append ?_ ?_
  · rcases hc2 with e | e <;> rw [e] <;> decide
  · have hne : ¬ l.drop 4 = [] := fun e => by
      have := congrArg List.length e
      rw [List.length_drop, List.length_nil] at this
      omega
    have hl : (l.drop 4).getLast? = some 62 := by
      have hlast : l.getLast? = (l.drop 4).getLast? := by
        conv => lhs; rw [← List.take_append_drop 4 l]
        rw [List.getLast?_append]
        cases hx : (l.drop 4).getLast? with
        | none => exact absurd (List.getLast?_eq_none_iff.1 hx) hne
        | some x => rfl
      rw [← hlast]; exact hc3
    obtain ⟨inner, hin⟩ := last_is hl
    rw [hin, List.dropLast_concat] at hmid
    rw [hin]
    exact all_append hmid (by decide)


/-! ### What these characters are not -/
theorem ty_plain : ∀ c : UInt8, tyC c = true → plainC c = true := by
  refine byte_cases ?_
  decide +kernel
theorem ty_in41 : ∀ c : UInt8, tyC c = true → insideC 41 c = true := by
  refine byte_cases ?_
  decide +kernel
theorem ty_low : ∀ c : UInt8, tyC c = true → c.toNat < 128 := by
  refine byte_cases ?_
  decide +kernel
theorem digit_ty : ∀ c : UInt8, bDigit c = true → tyC c = true := by
  refine byte_cases ?_
  decide +kernel
theorem digit_in93 : ∀ c : UInt8, bDigit c = true → insideC 93 c = true := by
  refine byte_cases ?_
  decide +kernel
theorem quoteB_low : ∀ b : UInt8, ∀ c ∈ quoteB b, c.toNat < 128 := by
  refine byte_cases ?_
  decide +kernel

theorem low_append {a b : List UInt8} (ha : ∀ c ∈ a, c.toNat < 128) (hb : ∀ c ∈ b, c.toNat < 128) : ∀ c ∈ a ++ b, c.toNat < 128 := by
  intro c hc
  rcases List.mem_append.1 hc with h | h
  · exact ha c h
  · exact hb c h
theorem low_all {p : UInt8 → Bool} (hp : ∀ c, p c = true → c.toNat < 128) {l : List UInt8} (h : l.all p = true) : ∀ c ∈ l, c.toNat < 128 := fun c hc => hp c (List.all_eq_true.1 h c hc)
theorem join_pred {q : UInt8 → Prop} (sep : List UInt8) (hs : ∀ c ∈ sep, q c) : ∀ ps : List (List UInt8), (∀ p ∈ ps, ∀ c ∈ p, q c) → ∀ c ∈ Lib.join ps sep, q c
  | [], _ => by simp [Lib.join]
  | a :: r, h => by
    intro c hc
    rw [Lib.join_cons] at hc
    rcases List.mem_append.1 hc with hc | hc
    · exact h a (by simp) c hc
    · obtain ⟨y, hy, hc⟩ := List.mem_flatten.1 hc
      obtain ⟨x, hx, rfl⟩ := List.mem_map.1 hy
      rcases List.mem_append.1 hc with hc | hc
      · exact hs c hc
      · exact h x (List.mem_cons_of_mem _ hx) c hc

theorem itoa_in (x : Int) : ∀ c ∈ Lib.itoa x, insideC 93 c = true ∧ plainC c = true ∧ c.toNat < 128 := by
  have hd : ∀ c : UInt8, bDigit c = true → insideC 93 c = true ∧ plainC c = true ∧ c.toNat < 128 := fun c h => ⟨digit_in93 c h, ty_plain c (digit_ty c h), ty_low c (digit_ty c h)⟩
  intro c hc
  unfold Lib.itoa at hc
  split at hc
  · rcases List.mem_cons.1 hc with rfl | hc
    · decide
    · exact hd c (List.all_eq_true.1 (dec_all _) c hc)
  · exact hd c (List.all_eq_true.1 (dec_all _) c hc)

theorem all_of {p : UInt8 → Bool} {l : List UInt8} (h : ∀ c ∈ l, p c = true) : l.all p = true := List.all_eq_true.2 h

theorem types_in {ss : List ByteArray} (h : tysB ss = true) : ∀ c ∈ Lib.join (ss.map (·.data.toList)) gap, insideC 41 c = true ∧ c.toNat < 128 := by
  refine join_pred gap (by decide) _ ?_
  intro p hp c hc
  have h1 := List.all_eq_true.1 (ty_all (all_tyR h p hp)) c hc
  exact ⟨ty_in41 c h1, ty_low c h1⟩
theorem ints_in (zs : List Int) : ∀ c ∈ Lib.join (zs.map Lib.itoa) gap, insideC 93 c = true ∧ c.toNat < 128 := by
  refine join_pred gap (by decide) _ ?_
  intro p hp c hc
  obtain ⟨z, _, rfl⟩ := List.mem_map.1 hp
  have := itoa_in z c hc
  exact ⟨this.1, this.2.2⟩

/-- The string of a value has no comma that parts, and its characters are ASCII. -/
theorem value_clean {a : At} (h : rightB a = true) : clean (valueL a) ∧ ∀ c ∈ valueL a, c.toNat < 128 := by
  obtain ⟨_, ⟨n, z, rfl⟩ | ⟨n, t, rfl, ht⟩ | ⟨n, t, rfl, ht⟩ | ⟨n, t, rfl, ht⟩ | ⟨n, zs, rfl, hz⟩ | ⟨n, ss, rfl, hl, hs⟩⟩ := right_cases h
  · exact ⟨clean_plain (all_of fun c hc => (itoa_in z c hc).2.1), fun c hc => (itoa_in z c hc).2.2⟩
  · refine ⟨clean_quote _, ?_⟩
    show ∀ c ∈ quoteL t.data.toList, c.toNat < 128
    intro c hc
    simp only [quoteL, List.mem_cons, List.mem_append, List.mem_flatMap, List.not_mem_nil, or_false] at hc
    rcases hc with rfl | ⟨b, _, hc⟩ | rfl
    · decide
    · exact quoteB_low b c hc
    · decide
  · have h2 : (64 :: t.data.toList).all tyC = true ∨ True := .inr trivial
    have h3 := name_ty ht
    refine ⟨clean_plain ?_, ?_⟩
    · show (64 :: t.data.toList).all plainC = true
      rw [List.all_cons, all_imp h3 ty_plain]; rfl
    · show ∀ c ∈ 64 :: t.data.toList, c.toNat < 128
      intro c hc
      rcases List.mem_cons.1 hc with rfl | hc
      · decide
      · exact ty_low c (List.all_eq_true.1 h3 c hc)
  · have h3 := ty_all (by rw [← isTy_isTyR]; exact ht)
    exact ⟨clean_plain (all_imp h3 ty_plain), low_all ty_low h3⟩
  · refine ⟨clean_ints (all_of fun c hc => (ints_in zs c hc).1), ?_⟩
    show ∀ c ∈ 91 :: (Lib.join (zs.map Lib.itoa) gap ++ [93]), c.toNat < 128
    intro c hc
    simp only [List.mem_cons, List.mem_append, List.not_mem_nil, or_false] at hc
    rcases hc with rfl | hc | rfl
    · decide
    · exact (ints_in zs c hc).2
    · decide
  · refine ⟨clean_types (all_of fun c hc => (types_in hs c hc).1), ?_⟩
    show ∀ c ∈ 40 :: (Lib.join (ss.map (·.data.toList)) gap ++ [41]), c.toNat < 128
    intro c hc
    simp only [List.mem_cons, List.mem_append, List.not_mem_nil, or_false] at hc
    rcases hc with rfl | hc | rfl
    · decide
    · exact (types_in hs c hc).2
    · decide

/-! ### The items of a list -/
theorem item_clean {a : At} (h : rightB a = true) : clean (itemL a) ∧ ∀ c ∈ itemL a, c.toNat < 128 := by
  have hn := name_ty (right_cases h).1
  obtain ⟨h1, h2⟩ := value_clean h
  refine ⟨clean_append (clean_plain (all_imp hn ty_plain)) (clean_append (clean_plain (by decide)) h1), ?_⟩
  exact low_append (low_all ty_low hn) (low_append (by decide) h2)
/-- The pieces between the commas: the items, each one but the first behind a blank. -/
def piecesL : List At → List (List UInt8)
  | [] => []
  | a :: l => itemL a :: l.map fun b => 32 :: itemL b
theorem body_blank : ∀ (l : List At) (a : At), Lib.join ((32 :: itemL a) :: l.map fun b => 32 :: itemL b) comma = 32 :: Lib.join (itemL a :: l.map itemL) gap
  | [], a => by simp [Lib.join_one]
  | b :: l, a => by
    rw [List.map_cons, List.map_cons, joinC_more, join_more, body_blank l b]
    simp
theorem body_pieces (a : At) (l : List At) : bodyL (a :: l) = Lib.join (piecesL (a :: l)) comma := by
  cases l with
  | nil => simp [bodyL, piecesL, Lib.join_one]
  | cons b l =>
    show Lib.join (itemL a :: itemL b :: l.map itemL) gap = Lib.join (itemL a :: (32 :: itemL b) :: l.map fun b => 32 :: itemL b) comma
    rw [joinC_more, join_more, body_blank l b]
    simp
theorem canon_body {l : List At} (hne : l ≠ []) (h : ∀ a ∈ l, rightB a = true) : Canon (bodyL l) (piecesL l) := by
  cases l with
  | nil => exact absurd rfl hne
  | cons a l =>
    refine ⟨by simp [piecesL], body_pieces a l, ?_, ?_⟩
    · intro p hp
      unfold piecesL at hp
      rcases List.mem_cons.1 hp with rfl | hp
      · exact (item_clean (h a (by simp))).1
      · obtain ⟨b, hb, rfl⟩ := List.mem_map.1 hp
        exact clean_append (a := [32]) (clean_plain (by decide)) (item_clean (h b (List.mem_cons_of_mem _ hb))).1
    · unfold bodyL
      refine join_pred gap (by decide) _ ?_
      intro p hp
      obtain ⟨b, hb, rfl⟩ := List.mem_map.1 hp
      exact (item_clean (h b hb)).2
end Go.Proofs.YtiofnjnaleglgaaGreatDoor

/-
  The front of a value tells its kind; what a right attribute's value is read back as, kind by kind.
-/
namespace Go.Proofs.YtiofnjnaleglgaaGreatDoor
open Go.RowKit

/-- The kind that a value's first character tells. -/
def kindL (v : List UInt8) : Int := match v with
  | [] => 3
  | c :: _ => if c.toNat = 45 ∨ bDigit c = true then 0 else if c.toNat = 34 then 1 else if c.toNat = 64 then 2 else if c.toNat = 91 then 4 else if c.toNat = 40 then 5 else 3

theorem ty_head {l : List UInt8} (h : isTyR l = true) : ∃ c t, l = c :: t ∧ (c = 105 ∨ c = 33 ∨ c = 109 ∨ c = 97) := by
  cases l with
  | nil => exact absurd h (by decide)
  | cons c t =>
    refine ⟨c, t, rfl, ?_⟩
    unfold isTyR readR at h
    by_cases hn : (numberR (c :: t)).2.2 = true
    · by_cases hc : c = 105
      · exact .inl hc
      · rw [number_head (by simpa using hc)] at hn
        cases hn
    rw [if_neg hn] at h
    by_cases h33 : 1 < (c :: t).length ∧ (c :: t).head? = some 33
    · exact .inr (.inl (Option.some.inj h33.2))
    rw [if_neg h33] at h
    split at h
    · cases h
    · rename_i hc
      have hc2 : (c :: t).take 4 = memW ∨ (c :: t).take 4 = arrW := by
        by_cases a : (c :: t).take 4 = memW
        · exact .inl a
        · by_cases b : (c :: t).take 4 = arrW
          · exact .inr b
          · exact absurd (.inr (.inl ⟨a, b⟩)) hc
      rw [List.take_succ_cons] at hc2
      rcases hc2 with e | e
      · exact .inr (.inr (.inl (List.cons.inj e).1))
      · exact .inr (.inr (.inr (List.cons.inj e).1))

theorem itoa_head (x : Int) : ∃ c t, Lib.itoa x = c :: t ∧ (c.toNat = 45 ∨ bDigit c = true) := by
  unfold Lib.itoa
  split
  · exact ⟨45, _, rfl, .inl (by decide)⟩
  · have hd := dec_all x.toNat
    cases hc : Lib.decDigits x.toNat with
    | nil =>
      have h1 := Lib.decDigits_length x.toNat
      have h2 := Lib.nDigits_pos x.toNat
      rw [hc, List.length_nil] at h1
      omega
    | cons c t =>
      rw [hc, List.all_cons, Bool.and_eq_true] at hd
      exact ⟨c, t, rfl, .inr hd.1⟩

theorem kind_value {a : At} (h : rightB a = true) : kindL (valueL a) = a.kind := by
  obtain ⟨_, ⟨n, z, rfl⟩ | ⟨n, t, rfl, ht⟩ | ⟨n, t, rfl, ht⟩ | ⟨n, t, rfl, ht⟩ | ⟨n, zs, rfl, hz⟩ | ⟨n, ss, rfl, hl, hs⟩⟩ := right_cases h
  · obtain ⟨c, t, he, hc⟩ := itoa_head z
    show kindL (Lib.itoa z) = 0
    rw [he, kindL, if_pos hc]
  · rfl
  · rfl
  · obtain ⟨c, u, he, hc⟩ := ty_head (by rw [← isTy_isTyR]; exact ht)
    show kindL t.data.toList = 3
    rw [he]
    rcases hc with rfl | rfl | rfl | rfl <;> rfl
  · rfl
  · rfl
theorem value_ne {a : At} (h : rightB a = true) : valueL a ≠ [] := by
  obtain ⟨_, ⟨n, z, rfl⟩ | ⟨n, t, rfl, ht⟩ | ⟨n, t, rfl, ht⟩ | ⟨n, t, rfl, ht⟩ | ⟨n, zs, rfl, hz⟩ | ⟨n, ss, rfl, hl, hs⟩⟩ := right_cases h
  · obtain ⟨c, t, he, hc⟩ := itoa_head z
    show Lib.itoa z ≠ []
    rw [he]; simp
  · show quoteL _ ≠ []
    simp [quoteL]
  · show _ :: _ ≠ []
    simp
  · obtain ⟨c, u, he, hc⟩ := ty_head (by rw [← isTy_isTyR]; exact ht)
    show t.data.toList ≠ []
    rw [he]; simp
  · show intsL _ ≠ []
    simp [intsL]
  · show joinR _ ≠ []
    simp [joinR]

/-! ### Names in front of ' = ' -/
theorem part_blank : ∀ c : UInt8, bPart c = true → ¬ c = 32 := by
  refine byte_cases ?_
  decide +kernel
theorem index_eq : ∀ {n : List UInt8} (r : List UInt8), n.all bPart = true → Lib.index (n ++ ([32, 61, 32] ++ r)) [32, 61, 32] = (n.length : Int)
  | [], r, _ => by
    show Lib.index (32 :: 61 :: 32 :: r) [32, 61, 32] = 0
    unfold Lib.index
    rw [if_pos (by simp [List.isPrefixOf])]
  | b :: l, r, h => by
    rw [List.all_cons, Bool.and_eq_true] at h
    have hb := part_blank b h.1
    have ih := index_eq r h.2
    rw [List.cons_append]
    unfold Lib.index
    rw [if_neg (by simp [List.isPrefixOf]; intro e; exact absurd e.symm hb), ih, if_neg (by simp)]
    simp
theorem nameR_head {l : List UInt8} (h : isNameR l = true) : ∃ c t, l = c :: t ∧ bLetter c = true := by
  have := ((isNameR_iff l).1 h).2.1
  cases l with
  | nil => cases this
  | cons c t => exact ⟨c, t, rfl, this⟩
theorem name_size {l : List UInt8} (h : isNameR l = true) : l.length ≤ 60 := ((isNameR_iff l).1 h).1

/-! ### A text is read back -/
theorem quoteB_out (b : UInt8) : (quoteB b = [b] ∧ 32 ≤ b.toNat ∧ b.toNat ≤ 126 ∧ b.toNat ≠ 34 ∧ b.toNat ≠ 92) ∨ (b.toNat = 34 ∧ quoteB b = [92, 34]) ∨ (b.toNat = 92 ∧ quoteB b = [92, 92]) ∨ (b.toNat = 10 ∧ quoteB b = [92, 110]) ∨
    quoteB b = [92, 120, hexD (b.toNat / 16), hexD (b.toNat % 16)] := by
  unfold quoteB
  by_cases h1 : b.toNat = 34
  · exact .inr (.inl ⟨h1, by rw [if_pos h1]⟩)
  by_cases h2 : b.toNat = 92
  · exact .inr (.inr (.inl ⟨h2, by rw [if_neg h1, if_pos h2]⟩))
  by_cases h3 : b.toNat = 10
  · exact .inr (.inr (.inr (.inl ⟨h3, by rw [if_neg h1, if_neg h2, if_pos h3]⟩)))
  by_cases h4 : b.toNat < 32 ∨ 126 < b.toNat
  · exact .inr (.inr (.inr (.inr (by rw [if_neg h1, if_neg h2, if_neg h3, if_pos h4]))))
  · exact .inl ⟨by rw [if_neg h1, if_neg h2, if_neg h3, if_neg h4], by omega, by omega, h1, h2⟩
/-- So many characters of the inner string stand for the first m bytes. -/
def offL (t : List UInt8) (m : Nat) : Nat := ((t.take m).flatMap quoteB).length
theorem off_next {t : List UInt8} {m : Nat} {b : UInt8} (h : t[m]? = some b) : offL t (m + 1) = offL t m + (quoteB b).length := by
  unfold offL
  rw [List.take_add_one, h, List.flatMap_append, List.length_append]
  simp
theorem off_drop {t : List UInt8} (m : Nat) : (t.flatMap quoteB).drop (offL t m) = (t.drop m).flatMap quoteB := by
  conv => lhs; rw [← List.take_append_drop m t]
  rw [List.flatMap_append]
  unfold offL
  rw [List.take_append_drop, List.drop_left]
theorem off_at {t : List UInt8} {m : Nat} {b : UInt8} (h : t[m]? = some b) : (t.flatMap quoteB).drop (offL t m) = quoteB b ++ (t.drop (m + 1)).flatMap quoteB := by
  rw [off_drop]
  have hlt : m < t.length := (List.getElem?_eq_some_iff.1 h).1
  rw [List.drop_eq_getElem_cons hlt, List.flatMap_cons, (List.getElem?_eq_some_iff.1 h).2]
theorem off_len (t : List UInt8) : offL t t.length = (t.flatMap quoteB).length := by
  unfold offL; rw [List.take_length]
end Go.Proofs.YtiofnjnaleglgaaGreatDoor

/-
  'unescaped' by its contract: what stands for a byte is told, if it is the string that 'escaped' writes.
-/
namespace Go.Proofs.YtiofnjnaleglgaaGreatDoor
open Go.RowKit

theorem syn_cell {w : World} (hE : Env w) : ∃ tp p, w.cell? ⟨2, 0, none⟩ = some (.iface tp p) := by
  obtain ⟨tp, p, h⟩ := hE.syn
  exact ⟨tp, p, by have := World.var?_cell g_syn h 0; simpa using this⟩

def HexOut (bs : List UInt8) (w : World) (e : Ending) (w' : World) : Prop := Below w.heap.size w w' ∧
  ((∃ v : Nat, v ≤ 255 ∧ hexSo bs 2 v ∧ e = .returned (.tuple #[.int .u64 v, .nilIface])) ∨ (¬ isHex bs ∧ ∃ tp p, e = .returned (.tuple #[.int .u64 0, .iface tp p])))

set_option maxHeartbeats 1000000 in
set_option maxRecDepth 100000 in
theorem parseUint16 (t : ByteArray) (h2 : t.size = 2) (w : World) (hE : Env w) :
    Calls Tryz.prog 158 #[.string t, .int .i64 16, .int .i64 8] w (HexOut t.data.toList w) := by
  have HE := Lib.hid hE
  clear hE
  go_enter Tryz.func158, Tryz.ntmps158
  go_wp2_with fail
  refine (parseUint16_in t h2 _).mono ?_
  rintro e w1 ⟨hb, ⟨v, hv, hso, rfl⟩ | ⟨hno, rfl⟩⟩
  · have B1 := Lib.hid hb
    have HS := Lib.hid hso
    clear hb hso
    go_wp2_with fail
    go_ret2
    exact ⟨B1.out, .inl ⟨v, hv, HS.out, rfl⟩⟩
  · have B1 := Lib.hid hb
    have HN := Lib.hid hno
    clear hb hno
    go_wp2_with fail
    obtain ⟨tp, p, hc⟩ := syn_cell (HE.out.below B1.out)
    refine (Tryz.strconv_toError_syntax _ t 16 8 (.iface tp p) w1 (by omega) hc (.inr ⟨tp, p, rfl⟩)).mono ?_
    rintro e w2 ⟨N, rfl, _, _, hb⟩
    have B2 := Lib.hid (B1.out.trans (hb.mono B1.out.size))
    clear hb hc
    go_wp2_with fail
    go_ret2
    exact ⟨B2.out, .inr ⟨HN.out, _, _, rfl⟩⟩

/-- What stands for a byte, more than one character, is told. -/
def canonE (l : List UInt8) (code width : Nat) : Prop := ∀ b rest, l = quoteB b ++ rest → (quoteB b).length ≠ 1 → code = b.toNat ∧ width = (quoteB b).length
theorem canon_short {l : List UInt8} (h : l.length < 2) (c d : Nat) : canonE l c d := by
  intro b rest e h1
  have := congrArg List.length e
  rw [List.length_append] at this
  rcases quoteB_out b with ⟨h2, _⟩ | ⟨_, h2⟩ | ⟨_, h2⟩ | ⟨_, h2⟩ | h2 <;> rw [h2] at this h1 <;> simp at this h1 <;> omega
theorem canon_two {c0 c1 : UInt8} {r : List UInt8} {code : Nat} (h34 : c1 = 34 → code = 34) (h92 : c1 = 92 → code = 92) (h110 : c1 = 110 → code = 10) (h120 : ¬ c1 = 120) : canonE (c0 :: c1 :: r) code 2 := by
  intro b rest e h1
  rcases quoteB_out b with ⟨h2, _⟩ | ⟨hb, h2⟩ | ⟨hb, h2⟩ | ⟨hb, h2⟩ | h2
  · rw [h2] at h1; exact absurd rfl h1
  · rw [h2] at e ⊢
    simp only [List.cons_append, List.nil_append, List.cons.injEq] at e
    exact ⟨by rw [hb]; exact h34 e.2.1, rfl⟩
  · rw [h2] at e ⊢
    simp only [List.cons_append, List.nil_append, List.cons.injEq] at e
    exact ⟨by rw [hb]; exact h92 e.2.1, rfl⟩
  · rw [h2] at e ⊢
    simp only [List.cons_append, List.nil_append, List.cons.injEq] at e
    exact ⟨by rw [hb]; exact h110 e.2.1, rfl⟩
  · rw [h2] at e
    simp only [List.cons_append, List.nil_append, List.cons.injEq] at e
    exact absurd e.2.1 h120
theorem canon_none {c0 c1 : UInt8} {r : List UInt8} {code d : Nat} (h34 : ¬ c1 = 34) (h92 : ¬ c1 = 92) (h110 : ¬ c1 = 110) (h120 : c1 = 120 → ¬ ∃ x y r', r = x :: y :: r' ∧ isHex [x, y]) : canonE (c0 :: c1 :: r) code d := by
  intro b rest e h1
  rcases quoteB_out b with ⟨h2, _⟩ | ⟨hb, h2⟩ | ⟨hb, h2⟩ | ⟨hb, h2⟩ | h2
  · rw [h2] at h1; exact absurd rfl h1
  · rw [h2] at e
    simp only [List.cons_append, List.nil_append, List.cons.injEq] at e
    exact absurd e.2.1 h34
  · rw [h2] at e
    simp only [List.cons_append, List.nil_append, List.cons.injEq] at e
    exact absurd e.2.1 h92
  · rw [h2] at e
    simp only [List.cons_append, List.nil_append, List.cons.injEq] at e
    exact absurd e.2.1 h110
  · rw [h2] at e
    simp only [List.cons_append, List.nil_append, List.cons.injEq] at e
    have hb := b.toNat_lt
    exact absurd ⟨_, _, _, e.2.2, ⟨b.toNat / 16, b.toNat % 16, by omega, by omega, rfl⟩⟩ (h120 e.2.1)
theorem canon_hex {c0 c1 x y : UInt8} {r : List UInt8} {v : Nat} (h120 : c1 = 120) (hso : hexSo [x, y] 2 v) : canonE (c0 :: c1 :: x :: y :: r) v 4 := by
  intro b rest e h1
  subst h120
  rcases quoteB_out b with ⟨h2, _⟩ | ⟨hb, h2⟩ | ⟨hb, h2⟩ | ⟨hb, h2⟩ | h2
  · rw [h2] at h1; exact absurd rfl h1
  · rw [h2] at e
    simp only [List.cons_append, List.nil_append, List.cons.injEq] at e
    exact absurd e.2.1 (by decide)
  · rw [h2] at e
    simp only [List.cons_append, List.nil_append, List.cons.injEq] at e
    exact absurd e.2.1 (by decide)
  · rw [h2] at e
    simp only [List.cons_append, List.nil_append, List.cons.injEq] at e
    exact absurd e.2.1 (by decide)
  · rw [h2] at e ⊢
    simp only [List.cons_append, List.nil_append, List.cons.injEq] at e
    have hb := b.toNat_lt
    have := hso (b.toNat / 16) (b.toNat % 16) (by omega) (by omega) (by rw [e.2.2.1, e.2.2.2.1])
    simp at this
    exact ⟨by omega, rfl⟩

def UnescPost (s : ByteArray) (w : World) (e : Ending) (w' : World) : Prop := Below w.heap.size w w' ∧
  ∃ code width : Nat, e = .returned (.tuple #[.int .u8 code, .int .i64 width]) ∧ code < 256 ∧ (width = 0 ∨ (2 ≤ width ∧ width ≤ s.size ∧ width ≤ 4)) ∧ canonE s.data.toList code width

theorem at_one {s : ByteArray} (h : 1 < s.size) : s.data.toList[1]? = some (s[1]'h) := by
  rw [List.getElem?_eq_getElem (by rw [← size_eq]; exact h)]
  rfl
theorem two_up {s : ByteArray} (h : 1 < s.size) : ∃ c0 r, s.data.toList = c0 :: s[1]'h :: r := by
  have e := at_one h
  cases hl : s.data.toList with
  | nil => rw [hl] at e; cases e
  | cons c0 t =>
    cases t with
    | nil => rw [hl] at e; cases e
    | cons c1 r =>
      rw [hl] at e
      exact ⟨c0, r, by rw [show c1 = s[1]'h from Option.some.inj e]⟩
theorem four_up {s : ByteArray} (h1 : 1 < s.size) (h : 4 ≤ s.size) : ∃ c0 x y r, s.data.toList = c0 :: s[1]'h1 :: x :: y :: r ∧ (s.extract 2 4).data.toList = [x, y] := by
  obtain ⟨c0, t, hl⟩ := two_up h1
  have e : s.data.toList.length = s.size := (size_eq s).symm
  rw [extract_toList, hl]
  rw [hl] at e
  cases t with
  | nil => simp at e; omega
  | cons x t =>
    cases t with
    | nil => simp at e; omega
    | cons y r => exact ⟨c0, x, y, r, rfl, rfl⟩

theorem ne_code {c : UInt8} {n : Nat} {m : Int} (h : ¬ (c.toNat : Int) = m) (hn : ((n : Nat) : Int) = m) (hm : (UInt8.ofNat n).toNat = n) : ¬ c = UInt8.ofNat n := fun e => h (by rw [e, hm, hn])

set_option maxHeartbeats 1000000 in
set_option maxRecDepth 100000 in
theorem unescaped_any (s : ByteArray) (w : World) (hE : Env w) : Calls Tryz.prog 138 #[.string s] w (UnescPost s w) := by
  have HE := Lib.hid hE
  clear hE
  by_cases h2 : s.size < 2
  · have hx : (s.size : Int) < 2 := by omega
    have hf := Lib.hid (show UnescPost s w (.returned (.tuple #[.int .u8 0, .int .i64 0])) w from ⟨Below.refl _ _, 0, 0, rfl, by decide, .inl rfl, canon_short (by rw [← size_eq]; exact h2) 0 0⟩)
    go_enter Tryz.func138, Tryz.ntmps138
    go_wp2_with fail
    go_ret2
    exact hf.out
  have hx : ¬ (s.size : Int) < 2 := by omega
  have h1 : 1 < s.size := by omega
  obtain ⟨c0, r, hl⟩ := two_up h1
  have hl4 := four_up h1
  have h1i : (1 : Int) < (s.size : Int) := by omega
  have hix : ∀ w, (Instr.index 9 (.string s) (.int .i64 1)).run Tryz.prog w = .ok (.int .u8 ((s[1]'h1).toNat : Int)) w := fun w => by
    rw [run_index_string w _ _ _ _ Tryz.underlying9]
    simp [h1i]
  have h4p : ∀ h : 4 ≤ s.size, ∃ c0 x y r, s.data.toList = c0 :: s[1]'h1 :: x :: y :: r ∧ (s.extract 2 4).data.toList = [x, y] := fun h => hl4 h
  clear hl4
  generalize s[1]'h1 = c at hix hl h4p
  by_cases k34 : (c.toNat : Int) = 34
  · have hc : c = 34 := by apply UInt8.toNat_inj.1; have : (34 : UInt8).toNat = 34 := by decide
                           omega
    have hf := Lib.hid (show UnescPost s w (.returned (.tuple #[.int .u8 ((34 : Nat) : Int), .int .i64 ((2 : Nat) : Int)])) w from ⟨Below.refl _ _, 34, 2, rfl, by decide, .inr ⟨by omega, by omega, by omega⟩, by rw [hl, hc]; exact canon_two (fun _ => rfl) (fun e => absurd e (by decide)) (fun e => absurd e (by decide)) (by decide)⟩)
    rw [k34] at hix
    clear hl h4p hc
    go_enter Tryz.func138, Tryz.ntmps138
    go_wp2_with fail
    go_ret2
    exact hf.out
  by_cases k92 : (c.toNat : Int) = 92
  · have hc : c = 92 := by apply UInt8.toNat_inj.1; have : (92 : UInt8).toNat = 92 := by decide
                           omega
    have hf := Lib.hid (show UnescPost s w (.returned (.tuple #[.int .u8 ((92 : Nat) : Int), .int .i64 ((2 : Nat) : Int)])) w from ⟨Below.refl _ _, 92, 2, rfl, by decide, .inr ⟨by omega, by omega, by omega⟩, by rw [hl, hc]; exact canon_two (fun e => absurd e (by decide)) (fun _ => rfl) (fun e => absurd e (by decide)) (by decide)⟩)
    rw [k92] at hix
    clear hl h4p hc
    go_enter Tryz.func138, Tryz.ntmps138
    go_wp2_with fail
    go_ret2
    exact hf.out
  by_cases k110 : (c.toNat : Int) = 110
  · have hc : c = 110 := by apply UInt8.toNat_inj.1; have : (110 : UInt8).toNat = 110 := by decide
                            omega
    have hf := Lib.hid (show UnescPost s w (.returned (.tuple #[.int .u8 ((10 : Nat) : Int), .int .i64 ((2 : Nat) : Int)])) w from ⟨Below.refl _ _, 10, 2, rfl, by decide, .inr ⟨by omega, by omega, by omega⟩, by rw [hl, hc]; exact canon_two (fun e => absurd e (by decide)) (fun e => absurd e (by decide)) (fun _ => rfl) (by decide)⟩)
    rw [k110] at hix
    clear hl h4p hc
    go_enter Tryz.func138, Tryz.ntmps138
    go_wp2_with fail
    go_ret2
    exact hf.out
  have n34 : ¬ c = 34 := ne_code (n := 34) k34 rfl (by decide)
  have n92 : ¬ c = 92 := ne_code (n := 92) k92 rfl (by decide)
  have n110 : ¬ c = 110 := ne_code (n := 110) k110 rfl (by decide)
  by_cases k120 : (c.toNat : Int) = 120
  · have hc : c = 120 := by apply UInt8.toNat_inj.1; have : (120 : UInt8).toNat = 120 := by decide
                            omega
    by_cases h4 : s.size < 4
    · have hy : (s.size : Int) < 4 := by omega
      have hf := Lib.hid (show UnescPost s w (.returned (.tuple #[.int .u8 ((0 : Nat) : Int), .int .i64 ((0 : Nat) : Int)])) w from ⟨Below.refl _ _, 0, 0, rfl, by decide, .inl rfl, by
        rw [hl]
        refine canon_none n34 n92 n110 (fun _ => ?_)
        rintro ⟨x, y, r', rfl, _⟩
        have := congrArg List.length hl
        rw [← size_eq] at this
        simp at this
        omega⟩)
      rw [k120] at hix
      clear hl h4p hc n34 n92 n110 k34 k92 k110
      go_enter Tryz.func138, Tryz.ntmps138
      go_wp2_with fail
      go_ret2
      exact hf.out
    · have hy : ¬ (s.size : Int) < 4 := by omega
      obtain ⟨d0, x, y, r', hl', hex⟩ := h4p (by omega)
      have hsz : (s.extract 2 4).size = 2 := by rw [size_eq, hex]; rfl
      have HL := Lib.hid (And.intro hl' (And.intro hex hc))
      rw [k120] at hix
      have hlo : (4 : Int) ≤ s.size := by omega
      clear hl h4p hc hl' hex k34 k92 k110
      go_enter Tryz.func138, Tryz.ntmps138
      go_wp2_with fail
      refine (parseUint16 (s.extract 2 4) hsz _ HE.out).mono ?_
      rintro e w1 ⟨hb, ⟨v, hv, hso, rfl⟩ | ⟨hno, tp, p, rfl⟩⟩
      · have hvi : (v : Int) ≤ 255 := by omega
        have hf := Lib.hid (show UnescPost s w (.returned (.tuple #[.int .u8 ((v : Nat) : Int), .int .i64 ((4 : Nat) : Int)])) w1 from ⟨hb, v, 4, rfl, by omega, .inr ⟨by omega, by omega, by omega⟩, by
          rw [HL.out.1]
          rw [HL.out.2.1] at hso
          exact canon_hex HL.out.2.2 hso⟩)
        clear hb hso
        go_wp2_with fail
        go_ret2
        exact hf.out
      · have hf := Lib.hid (show UnescPost s w (.returned (.tuple #[.int .u8 ((0 : Nat) : Int), .int .i64 ((0 : Nat) : Int)])) w1 from ⟨hb, 0, 0, rfl, by decide, .inl rfl, by
          rw [HL.out.1]
          rw [HL.out.2.1] at hno
          refine canon_none n34 n92 n110 (fun _ => ?_)
          rintro ⟨x', y', r'', e, hh⟩
          simp only [List.cons.injEq] at e
          rw [e.1, e.2.1] at hno
          exact hno hh⟩)
        clear hb hno
        go_wp2_with fail
        go_ret2
        exact hf.out
  · have n120 : ¬ c = 120 := ne_code (n := 120) k120 rfl (by decide)
    have hf := Lib.hid (show UnescPost s w (.returned (.tuple #[.int .u8 ((0 : Nat) : Int), .int .i64 ((0 : Nat) : Int)])) w from ⟨Below.refl _ _, 0, 0, rfl, by decide, .inl rfl, by
      rw [hl]; exact canon_none n34 n92 n110 (fun e => absurd e n120)⟩)
    clear hl h4p n34 n92 n110 n120
    go_enter Tryz.func138, Tryz.ntmps138
    go_wp2_with fail
    go_ret2
    exact hf.out
end Go.Proofs.YtiofnjnaleglgaaGreatDoor

