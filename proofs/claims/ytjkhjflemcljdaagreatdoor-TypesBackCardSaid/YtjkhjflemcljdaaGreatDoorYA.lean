/-
  The reference's 'Num', 'number', 'IsNumber' and 'Bits' by contracts.
-/
import Derived.Test.YtjkhjflemcljdaaGreatDoorVC
namespace Go.Proofs.YtjkhjflemcljdaaGreatDoor
open Go.RowKit

theorem dval_snoc (n : Nat) (l : List UInt8) (c : UInt8) : dvalFrom n (l ++ [c]) = 10 * dvalFrom n l + (c.toNat - 48) := by
  unfold dvalFrom
  rw [List.foldl_append, List.foldl_cons, List.foldl_nil]
theorem dval_lt : ∀ (l : List UInt8) (n : Nat), l.all bDigit = true → dvalFrom n l < (n + 1) * 10 ^ l.length
  | [], n, _ => by simp [dvalFrom]
  | c :: l, n, h => by
    rw [List.all_cons, Bool.and_eq_true] at h
    have hd := (digit_iff c).1 h.1
    rw [dval_cons, List.length_cons, Nat.pow_succ]
    have ih := dval_lt l (10 * n + (c.toNat - 48)) h.2
    generalize 10 ^ l.length = P at ih ⊢
    have h2 : (10 * n + (c.toNat - 48) + 1) * P ≤ (10 * (n + 1)) * P := Nat.mul_le_mul_right _ (by omega)
    have h3 : (n + 1) * (P * 10) = 10 * (n + 1) * P := by rw [Nat.mul_comm P, ← Nat.mul_assoc, Nat.mul_comm (n + 1)]
    omega
theorem take_snoc {l : List UInt8} {m : Nat} (h : m < l.length) : l.take (m + 1) = l.take m ++ [l[m]] := by
  rw [List.take_add_one, List.getElem?_eq_getElem h]; rfl
theorem all_snoc {p : UInt8 → Bool} {l : List UInt8} {c : UInt8} : (l ++ [c]).all p = (l.all p && p c) := by simp
theorem at_list (s : ByteArray) (m : Nat) (h : m < s.size) : s.data.toList[m]'(by simpa using h) = s[m]'h := rfl
/-- The digits read so far. -/
def SoFar (l : List UInt8) (m : Nat) (n : Nat) : Prop := (l.take m).all bDigit = true ∧ n = dvalFrom 0 (l.take m) ∧ n < 1000000000
theorem soFar_next {s : ByteArray} {m n : Nat} (h9 : s.size ≤ 9) (h : SoFar s.data.toList m n) (hm : m < s.size) (hd : 48 ≤ (s[m]'hm).toNat ∧ (s[m]'hm).toNat ≤ 57) : SoFar s.data.toList (m + 1) (10 * n + ((s[m]'hm).toNat - 48)) := by
  obtain ⟨h1, h2, _⟩ := h
  have hl : m < s.data.toList.length := by simpa using hm
  have hc : bDigit (s.data.toList[m]'hl) = true := (digit_iff _).2 hd
  have ha : (s.data.toList.take (m + 1)).all bDigit = true := by rw [take_snoc hl, all_snoc, h1, hc]; rfl
  have hv : 10 * n + ((s[m]'hm).toNat - 48) = dvalFrom 0 (s.data.toList.take (m + 1)) := by rw [take_snoc hl, dval_snoc, ← h2]; rfl
  refine ⟨ha, hv, ?_⟩
  have := dval_lt _ 0 ha
  have hlen : (s.data.toList.take (m + 1)).length ≤ 9 := by rw [List.length_take]; simp; omega
  have hp : 10 ^ (s.data.toList.take (m + 1)).length ≤ 10 ^ 9 := Nat.pow_le_pow_right (by decide) hlen
  have h99 : (10 : Nat) ^ 9 = 1000000000 := by decide
  omega

def NumRPost (s : ByteArray) (most : Nat) (w : World) (e : Ending) (w' : World) : Prop :=
  e = .returned (.tuple #[.int .i64 (numR s.data.toList most).1, .bool (numR s.data.toList most).2]) ∧ w = w'
theorem numRPost_of {s : ByteArray} {most n : Nat} {v : Int} {ok : Bool} {w : World} (h : numR s.data.toList most = (n, ok)) (hv : v = n) : NumRPost s most w (.returned (.tuple #[.int .i64 v, .bool ok])) w := ⟨by rw [h, hv], rfl⟩
theorem numRPost_bad {s : ByteArray} {most m : Nat} {w : World} (hs : numR s.data.toList most = if s.data.toList.all bDigit = true then (dvalFrom 0 s.data.toList, decide (dvalFrom 0 s.data.toList ≤ most)) else (0, false))
    (hm : m < s.size) (hd : ¬ (48 ≤ (s[m]'hm).toNat ∧ (s[m]'hm).toNat ≤ 57)) : NumRPost s most w (.returned (.tuple #[.int .i64 0, .bool false])) w := by
  refine numRPost_of (hs.trans (if_neg fun h => hd ?_)) rfl
  rw [List.all_eq_true] at h
  exact (digit_iff _).1 (h _ (List.getElem_mem (show m < s.data.toList.length by simpa using hm)))
theorem numRPost_end {s : ByteArray} {most n : Nat} {w : World} (hs : numR s.data.toList most = if s.data.toList.all bDigit = true then (dvalFrom 0 s.data.toList, decide (dvalFrom 0 s.data.toList ≤ most)) else (0, false))
    (h : SoFar s.data.toList s.size n) : NumRPost s most w (.returned (.tuple #[.int .i64 n, .bool (decide (n ≤ most))])) w := by
  obtain ⟨h1, h2, _⟩ := h
  rw [List.take_of_length_le (by simp)] at h1 h2
  rw [if_pos h1, ← h2] at hs
  exact ⟨by rw [hs], rfl⟩

set_option maxHeartbeats 1000000 in
set_option maxRecDepth 100000 in
theorem Num_any (s : ByteArray) (most : Nat) (w : World) :
    Calls Tryz.prog 42 #[.string s, .int .i64 most] w (NumRPost s most w) := by
  cases h0 : s.toList.isEmpty
  · have hne := nonempty_of h0
    by_cases h9 : 9 < s.size
    · have hs := Lib.hid (numR_no (m := most) (.inr (.inl (show 9 < s.data.toList.length by simpa using h9))))
      clear hne
      go_enter Tryz.func42, Tryz.ntmps42
      go_wp2_with fail
      go_ret2
      exact numRPost_of hs.out rfl
    · have part : (1 < s.size ∧ ∃ h : 0 < s.size, (((s[0]'h).toNat : Int) == 48) = true) ∨ ((1 < s.size ∧ ∃ h : 0 < s.size, (((s[0]'h).toNat : Int) == 48) = false) ∨ ¬ 1 < s.size) := by
        by_cases h1 : 1 < s.size
        · cases hz : (((s[0]'(by omega)).toNat : Int) == 48)
          · exact .inr (.inl ⟨h1, by omega, hz⟩)
          · exact .inl ⟨h1, by omega, hz⟩
        · exact .inr (.inr h1)
      have hlead : ∀ h : 0 < s.size, (((s[0]'h).toNat : Int) == 48) = true ↔ s.data.toList.head? = some 48 := by
        intro h
        rw [head_at s h, beq_iff_eq]
        constructor
        · intro e
          exact congrArg some (UInt8.toNat_inj.1 (by simpa using (by omega : (s[0]'h).toNat = 48)))
        · intro e
          have : s[0]'h = 48 := Option.some.inj e
          rw [this]; rfl
      rcases part with ⟨h1, hp, hz⟩ | hrest
      · have hs := Lib.hid (numR_no (m := most) (.inr (.inr ⟨(show 1 < s.data.toList.length by simpa using h1), (hlead hp).1 hz⟩)))
        clear hne hlead
        go_enter Tryz.func42, Tryz.ntmps42
        go_wp2_with fail
        go_ret2
        exact numRPost_of hs.out rfl
      · have hc : ¬ (s.data.toList = [] ∨ 9 < s.data.toList.length ∨ (1 < s.data.toList.length ∧ s.data.toList.head? = some 48)) := by
          rintro (h | h | ⟨h, h'⟩)
          · exact hne h
          · exact h9 (by simpa using h)
          · rcases hrest with ⟨_, hp, hz⟩ | h1
            · rw [(hlead hp).2 h'] at hz; cases hz
            · exact h1 (by simpa using h)
        have hs := Lib.hid (show numR s.data.toList most = if s.data.toList.all bDigit = true then (dvalFrom 0 s.data.toList, decide (dvalFrom 0 s.data.toList ≤ most)) else (0, false) by rw [numR, if_neg hc])
        clear hne hlead hc
        rcases hrest with ⟨h1, hp, hz⟩ | h1
        all_goals
          go_enter Tryz.func42, Tryz.ntmps42
          go_wp2_with fail
          go_loopw [6, 7] (fun n i wr => ∃ m n' : Nat, m ≤ s.size ∧ n = .int .i64 n' ∧ i = .int .i64 m ∧ SoFar s.data.toList m n' ∧ wr = w) (fun _ i _ => s.size - (intOf i).toNat)
          case atStart => exact ⟨0, 0, Nat.zero_le _, rfl, rfl, ⟨rfl, rfl, by omega⟩, rfl⟩
          case round =>
            obtain ⟨m, n', hms, rfl, rfl, hso, rfl⟩ := hrel
            have HS := Lib.hid hso
            have hn9 := hso.2.2
            clear hso
            by_cases hlt : m < s.size
            · have hb := (s[m]'hlt).toNat_lt
              by_cases hlo : (s[m]'hlt).toNat < 48
              · go_wp2_with fail
                go_ret2
                exact numRPost_bad hs.out hlt (by omega)
              · by_cases hhi : 57 < (s[m]'hlt).toNat
                · go_wp2_with fail
                  go_ret2
                  exact numRPost_bad hs.out hlt (by omega)
                · go_wp2_with fail
                  go_roundw
                  case rel => exact ⟨m + 1, 10 * n' + ((s[m]'hlt).toNat - 48), by omega, by go_num, by go_num, soFar_next (by omega) HS.out hlt (by omega), trivial⟩
                  case measure => simp [intOf]; omega
            · obtain rfl : m = s.size := by omega
              go_wp2_with fail
              go_ret2
              exact numRPost_end hs.out HS.out
  · have hs := Lib.hid (numR_no (m := most) (.inl (empty_of h0)))
    go_enter Tryz.func42, Tryz.ntmps42
    go_wp2_with fail
    go_ret2
    exact numRPost_of hs.out rfl

theorem Num_64 (s : ByteArray) (w : World) : Calls Tryz.prog 42 #[.string s, .int .i64 64] w fun e w' => ∃ (n : Nat) (ok : Bool), e = .returned (.tuple #[.int .i64 n, .bool ok]) ∧ numR s.data.toList 64 = (n, ok) ∧ w = w' :=
  (Num_any s 64 w).mono fun _ _ ⟨he, hw⟩ => ⟨_, _, he, rfl, hw⟩

def NumberPost (s : ByteArray) (w : World) (e : Ending) (w' : World) : Prop :=
  e = .returned (.tuple #[.int .i64 (numberR s.data.toList).1, .bool (numberR s.data.toList).2.1, .bool (numberR s.data.toList).2.2]) ∧ w = w'
theorem numberPost_of {s : ByteArray} {n : Nat} {ix ok : Bool} {w : World} (h : numberR s.data.toList = (n, ix, ok)) : NumberPost s w (.returned (.tuple #[.int .i64 n, .bool ix, .bool ok])) w := ⟨by rw [h], rfl⟩
theorem dec_one (n : Nat) : decide ((1 : Int) ≤ n) = decide (1 ≤ n) := by simp only [decide_eq_decide]; omega
theorem tail_extract (s : ByteArray) : (s.extract 1 s.size).data.toList = s.data.toList.tail := by
  rw [extract_toList, List.take_of_length_le (by simp), List.drop_one]

set_option maxHeartbeats 1000000 in
set_option maxRecDepth 100000 in
theorem number_ref (s : ByteArray) (w : World) :
    Calls Tryz.prog 40 #[.string s] w (NumberPost s w) := by
  cases hx : (s.toList == [105, 110, 100, 101, 120])
  · have hne := ne_of_beq_toList hx
    cases h0 : s.toList.isEmpty
    · have hn0 := nonempty_of h0
      have hpos : 0 < s.size := by rw [size_eq]; exact List.length_pos_iff.2 hn0
      have hb := (s[0]'hpos).toNat_lt
      have hh := head_at s hpos
      cases hi : (((s[0]'hpos).toNat : Int) == 105)
      · have hs := Lib.hid (show numberR s.data.toList = (0, false, false) from number_head (by
          rw [hh]
          intro e
          have : s[0]'hpos = 105 := Option.some.inj e
          rw [this] at hi
          cases hi))
        clear hne hn0 hh
        go_enter Tryz.func40, Tryz.ntmps40
        go_wp2_with fail
        go_ret3
        exact numberPost_of hs.out
      · have h105 : s.data.toList.head? = some 105 := by
          rw [hh]
          rw [beq_iff_eq] at hi
          exact congrArg some (UInt8.toNat_inj.1 (by simpa using (by omega : (s[0]'hpos).toNat = 105)))
        have hs := Lib.hid (show numberR s.data.toList = ((numR s.data.toList.tail 64).1, false, (numR s.data.toList.tail 64).2 && decide (1 ≤ (numR s.data.toList.tail 64).1)) by rw [numberR, if_neg hne, if_pos h105])
        clear hne hn0 hh h105
        go_enter Tryz.func40, Tryz.ntmps40
        go_wp2_with fail
        refine (Num_64 (s.extract 1 s.size) _).mono ?_
        rintro e w1 ⟨n, ok, rfl, hn, rfl⟩
        rw [tail_extract] at hn
        have HN := Lib.hid hn
        clear hn
        cases ok
        · go_wp2_with fail
          go_ret3
          exact numberPost_of (by rw [hs.out, HN.out]; rfl)
        · go_wp2_with fail
          go_ret3
          exact numberPost_of (by rw [hs.out, HN.out, dec_one]; rfl)
    · have hs := Lib.hid (show numberR s.data.toList = (0, false, false) by rw [empty_of h0]; rfl)
      clear hne
      go_enter Tryz.func40, Tryz.ntmps40
      go_wp2_with fail
      go_ret3
      exact numberPost_of hs.out
  · have hs := Lib.hid (show numberR s.data.toList = (64, true, true) by rw [numberR, if_pos (eq_of_beq_toList hx)])
    go_enter Tryz.func40, Tryz.ntmps40
    go_wp2_with fail
    go_ret3
    exact numberPost_of hs.out

theorem number_some_ref (s : ByteArray) (w : World) : Calls Tryz.prog 40 #[.string s] w fun e w' => ∃ (n : Nat) (ix ok : Bool), e = .returned (.tuple #[.int .i64 n, .bool ix, .bool ok]) ∧ numberR s.data.toList = (n, ix, ok) ∧ w = w' :=
  (number_ref s w).mono fun _ _ ⟨he, hw⟩ => ⟨_, _, _, he, rfl, hw⟩

set_option maxHeartbeats 400000 in
theorem IsNumber_ref (s : ByteArray) (w : World) :
    Calls Tryz.prog 15 #[.string s] w fun e w' => e = .returned (.bool (numberR s.data.toList).2.2) ∧ w = w' := by
  go_enter Tryz.func15, Tryz.ntmps15
  go_wp2_with fail
  refine (number_some_ref s _).mono ?_
  rintro e w1 ⟨n, ix, ok, rfl, hn, rfl⟩
  have HN := Lib.hid hn
  clear hn
  go_wp2_with fail
  go_ret
  exact ⟨by rw [HN.out]; rfl, rfl⟩

set_option maxHeartbeats 400000 in
theorem Bits_ref (s : ByteArray) (w : World) :
    Calls Tryz.prog 30 #[.string s] w fun e w' => e = .returned (.int .i64 (numberR s.data.toList).1) ∧ w = w' := by
  go_enter Tryz.func30, Tryz.ntmps30
  go_wp2_with fail
  refine (number_some_ref s _).mono ?_
  rintro e w1 ⟨n, ix, ok, rfl, hn, rfl⟩
  have HN := Lib.hid hn
  clear hn
  go_wp2_with fail
  go_ret
  exact ⟨by rw [HN.out]; rfl, rfl⟩
end Go.Proofs.YtjkhjflemcljdaaGreatDoor
