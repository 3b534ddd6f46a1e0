import Derived.Test.YtgimdkgjfenafaaGreatDoorCG15
namespace Go.Proofs.YtgimdkgjfenafaaGreatDoor
open Go.RowKit
theorem bytes_of {s : ByteArray} {l : List UInt8} (h : s.data.toList = l) : s = ⟨l.toArray⟩ := by
 apply ByteArray.ext
 apply Array.ext'
 rw [h]
theorem beq_yes {s : ByteArray} {l m : List UInt8} (h : s.data.toList = l) (e : l = m) : (s.toList == m) = true := by rw [ByteArray.toList_eq, h, e]; exact beq_self_eq_true _
theorem beq_no {s : ByteArray} {l m : List UInt8} (h : s.data.toList = l) (e : l ≠ m) : (s.toList == m) = false := by rw [ByteArray.toList_eq, h]; exact beq_eq_false_iff_ne.2 e
theorem letter_not {l : List UInt8} (h : l.length ≠ 1) : letterL l = false := by
 match l, h with
 | [], _ => rfl
 | [c], h => exact absurd rfl h
 | a :: b :: r, _ => rfl
def RuleRPost (s : ByteArray) (w : World) (e : Ending) (w' : World) : Prop := e = .returned (.agg #[.int .i64 (ruleOf s).sortR, .int .u8 ((ruleOf s).v.toNat : Int), .string (ruleOf s).whatR]) ∧ Below w.heap.size w w'
theorem rule_start {s : ByteArray} (h : (readR s.data.toList).isSome = false) (h1 : s.data.toList ≠ [97, 110, 121, 42]) (h2 : s.data.toList ≠ [110, 117, 109, 42]) : ruleOf s = match s.data.toList with
  | [v] => if isL v then .same v else .bad
  | [101, 108, 101, 109, 32, v] => if isL v then .elem v else .bad
  | [116, 117, 114, 110, 32, v] => if isL v then .turn v else .bad
  | [105, 110, 100, 101, 120, 94, v] => if isL v then .index v else .bad
  | [v, 58, a, b, c] => if isL v then (match clsOf [a, b, c] with | some k => .bind v k | none => .bad) else .bad
  | _ => .bad := by
 unfold ruleOf
 rw [if_neg (by rw [h]; decide), if_neg h1, if_neg h2]
 rfl
theorem six_of {s : ByteArray} (h : s.size = 6) : ∃ a b c d e v, s.data.toList = [a, b, c, d, e, v] := by
 rw [size_eq] at h
 match hl : s.data.toList with
 | [a, b, c, d, e, v] => exact ⟨a, b, c, d, e, v, rfl⟩
 | [] | [_] | [_, _] | [_, _, _] | [_, _, _, _] | [_, _, _, _, _] => rw [hl] at h; simp at h
 | _ :: _ :: _ :: _ :: _ :: _ :: _ :: _ => rw [hl] at h; simp at h
theorem seven_of {s : ByteArray} (h : s.size = 7) : ∃ a b c d e f v, s.data.toList = [a, b, c, d, e, f, v] := by
 rw [size_eq] at h
 match hl : s.data.toList with
 | [a, b, c, d, e, f, v] => exact ⟨a, b, c, d, e, f, v, rfl⟩
 | [] | [_] | [_, _] | [_, _, _] | [_, _, _, _] | [_, _, _, _, _] | [_, _, _, _, _, _] => rw [hl] at h; simp at h
 | _ :: _ :: _ :: _ :: _ :: _ :: _ :: _ :: _ => rw [hl] at h; simp at h
theorem five_of {s : ByteArray} (h : s.size = 5) : ∃ a b c d e, s.data.toList = [a, b, c, d, e] := by
 rw [size_eq] at h
 match hl : s.data.toList with
 | [a, b, c, d, e] => exact ⟨a, b, c, d, e, rfl⟩
 | [] | [_] | [_, _] | [_, _, _] | [_, _, _, _] => rw [hl] at h; simp at h
 | _ :: _ :: _ :: _ :: _ :: _ :: _ => rw [hl] at h; simp at h
set_option maxHeartbeats 16000000 in
set_option maxRecDepth 100000 in
theorem RReadRule_any (s : ByteArray) (hs : s.size ≤ 9223372036854775807) (w : World) : Calls Tryz.prog 52 #[.string s] w (RuleRPost s w) := by
 have HSZ := Lib.hid hs
 have hszi : (s.size : Int) ≤ 9223372036854775807 := by omega
 clear hs
 obtain ⟨W1, hW1⟩ : ∃ W1, W1 = w.alloc (.cells #[.int .i64 0, .int .u8 0, .string ⟨#[]⟩] 119) := ⟨_, rfl⟩
 have T1 : Hid (W1.heap[w.heap.size]? = some (.cells #[.int .i64 0, .int .u8 0, .string ⟨#[]⟩] 119 (0, 0))) := by
  show W1.heap[w.heap.size]? = _
  rw [hW1]
  exact heap_alloc_new _ _
 have B1 : Hid (Below w.heap.size w W1) := by
  show Below _ _ _
  rw [hW1]
  exact (Below.refl _ w).alloc (Nat.le_refl _) _
 go_enter Tryz.func52, Tryz.ntmps52
 go_wp2_with fail
 rw [← hW1]
 clear hW1
 refine (Is_ref s (by have := HSZ.out; omega) W1).mono ?_
 rintro e w2 ⟨rfl, hb⟩
 have T2 := Lib.hid ((hb.block _ (lt_of_block T1.out)).trans T1.out)
 have B2 := Lib.hid (B1.out.trans (hb.mono B1.out.size))
 obtain ⟨c0, c1, c2, cf⟩ := cells3 T2.out
 clear hb
 cases hi : (readR s.data.toList).isSome
 rotate_left
 ·have HR := Lib.hid (show ruleOf s = .fixed s by unfold ruleOf; rw [if_pos hi])
  clear hi
  go_wp2_with fail
  refine bodyPost_ret (v := .agg #[.int .i64 1, .int .u8 0, .string s]) (results_cell Tryz.results52 rfl (rruleVar (set3_block T2.out))) rfl ?_
  exact ⟨by rw [HR.out]; rfl, below_set3 B2.out (Nat.le_refl _)⟩
 cases k1 : (s.toList == [97, 110, 121, 42])
 rotate_left
 ·have HR := Lib.hid (show ruleOf s = .anys by unfold ruleOf; rw [if_neg (by rw [hi]; decide), if_pos (by have := eq_of_beq k1; rw [ByteArray.toList_eq] at this; exact this)])
  clear hi
  go_wp2_with fail
  refine bodyPost_ret (v := .agg #[.int .i64 7, .int .u8 0, .string ⟨#[]⟩]) (results_cell Tryz.results52 rfl (rruleVar (set3_block T2.out))) rfl ?_
  exact ⟨by rw [HR.out]; rfl, below_set3 B2.out (Nat.le_refl _)⟩
 cases k2 : (s.toList == [110, 117, 109, 42])
 rotate_left
 ·have hq : s.data.toList = [110, 117, 109, 42] := by have := eq_of_beq k2; rw [ByteArray.toList_eq] at this; exact this
  have HR := Lib.hid (show ruleOf s = .nums by unfold ruleOf; rw [if_neg (by rw [hi]; decide), if_neg (by rw [hq]; decide), if_pos hq])
  clear hi hq
  go_wp2_with fail
  refine bodyPost_ret (v := .agg #[.int .i64 8, .int .u8 0, .string ⟨#[]⟩]) (results_cell Tryz.results52 rfl (rruleVar (set3_block T2.out))) rfl ?_
  exact ⟨by rw [HR.out]; rfl, below_set3 B2.out (Nat.le_refl _)⟩
 have HM := Lib.hid (rule_start hi (fun h => by rw [ByteArray.toList_eq, h] at k1; exact absurd k1 (by decide)) (fun h => by rw [ByteArray.toList_eq, h] at k2; exact absurd k2 (by decide)))
 clear hi
 go_wp2_with fail
 refine (letter_any s (by have := HSZ.out; omega) w2).mono ?_
 rintro e w' ⟨rfl, rfl⟩
 clear k1 k2
 by_cases h1 : s.size = 1
 ·have hl := list_one h1
  have hix := fun w => ix_at' (s := s) (m := 0) (z := 0) rfl (by omega : 0 < s.size) w
  generalize s[0]'(by omega) = v at hl hix
  have HL : Hid (letterL s.data.toList = isL v) := by show letterL _ = _; rw [hl]; rfl
  rw [HL.out]
  have hz : 0 < (s.size : Int) := by omega
  have n6b : ((s.size : Int) == 6) = false := beq_eq_false_iff_ne.2 (by omega)
  have n7b : ((s.size : Int) == 7) = false := beq_eq_false_iff_ne.2 (by omega)
  have n5b : ((s.size : Int) == 5) = false := beq_eq_false_iff_ne.2 (by omega)
  cases hv : isL v
  ·have HR := Lib.hid (show ruleOf s = .bad by rw [HM.out, hl]; show (if isL v then _ else _) = _; rw [if_neg (by rw [hv]; decide)])
   clear hl h1 hv
   go_wp2_with fail
   refine bodyPost_ret (v := .agg #[.int .i64 0, .int .u8 0, .string ⟨#[]⟩]) (results_cell Tryz.results52 rfl (rruleVar (set3_block T2.out))) rfl ?_
   exact ⟨by rw [HR.out]; rfl, below_set3 B2.out (Nat.le_refl _)⟩
  ·have HR := Lib.hid (show ruleOf s = .same v by rw [HM.out, hl]; show (if isL v then _ else _) = _; rw [if_pos hv])
   clear hl h1 hv
   go_wp2_with fail
   refine bodyPost_ret (v := .agg #[.int .i64 3, .int .u8 (v.toNat : Int), .string ⟨#[]⟩]) (results_cell Tryz.results52 rfl (rruleVar (set3_block T2.out))) rfl ?_
   exact ⟨by rw [HR.out]; rfl, below_set3 B2.out (Nat.le_refl _)⟩
 rw [letter_not (by rw [← size_eq]; exact h1)]
 by_cases h6 : s.size = 6
 ·obtain ⟨a, b, c, d, e, v, hl⟩ := six_of h6
  have z6 : (s.size : Int) = 6 := by omega
  have z6b : ((s.size : Int) == 6) = true := beq_iff_eq.2 z6
  have n7b : ((s.size : Int) == 7) = false := beq_eq_false_iff_ne.2 (by omega)
  have n5b : ((s.size : Int) == 5) = false := beq_eq_false_iff_ne.2 (by omega)
  obtain ⟨X, hX⟩ : ∃ X, s.extract 0 5 = X := ⟨_, rfl⟩
  obtain ⟨Y, hY⟩ : ∃ Y, s.extract 5 s.size = Y := ⟨_, rfl⟩
  have hXl : X.data.toList = [a, b, c, d, e] := by rw [← hX, extract_toList, hl]; rfl
  have hYl : Y.data.toList = [v] := by rw [← hY, extract_toList, List.take_of_length_le (by rw [size_eq]; exact Nat.le_refl _), hl]; rfl
  have hY6 : s.extract 5 6 = Y := by rw [← hY, h6]
  have HY := Lib.hid (show letterL Y.data.toList = isL v by rw [hYl]; rfl)
  have HYS := Lib.hid (show Y.size ≤ 9223372036854775807 by rw [size_eq, hYl, List.length_singleton]; omega)
  have hix := fun w => ix_at' (s := s) (m := 5) (z := 5) rfl (by omega : 5 < s.size) w
  have hv5 : s[5]'(by omega) = v := by have := get_at' (s := s) (m := 5) (by omega); rw [hl] at this; exact (Option.some.inj this).symm
  rw [hv5] at hix
  have hz5 : (5 : Int) ≤ (s.size : Int) := by omega
  have hz5l : (5 : Int) < (s.size : Int) := by omega
  by_cases hw : [a, b, c, d, e] = [101, 108, 101, 109, 32]
  ·have hx1 := beq_yes hXl hw
   have hx2 := beq_no (m := [116, 117, 114, 110, 32]) hXl (by rw [hw]; decide)
   have HLW := Lib.hid (show s.data.toList = [101, 108, 101, 109, 32] ++ [v] by rw [hl, ← hw]; rfl)
   clear hw hXl hYl hl hv5 h6 h1
   go_wp2_with fail
   refine (letter_any Y HYS.out w2).mono ?_
   rintro e w' ⟨rfl, rfl⟩
   rw [HY.out]
   cases hv : isL v
   ·have HR := Lib.hid (show ruleOf s = .bad by rw [HM.out, HLW.out]; show (if isL v then _ else _) = _; rw [if_neg (by rw [hv]; decide)])
    clear hv
    go_wp2_with fail
    refine bodyPost_ret (v := .agg #[.int .i64 0, .int .u8 0, .string ⟨#[]⟩]) (results_cell Tryz.results52 rfl (rruleVar (set3_block T2.out))) rfl ?_
    exact ⟨by rw [HR.out]; rfl, below_set3 B2.out (Nat.le_refl _)⟩
   ·have HR := Lib.hid (show ruleOf s = .elem v by rw [HM.out, HLW.out]; show (if isL v then _ else _) = _; rw [if_pos hv])
    clear hv
    go_wp2_with fail
    refine bodyPost_ret (v := .agg #[.int .i64 4, .int .u8 (v.toNat : Int), .string ⟨#[]⟩]) (results_cell Tryz.results52 rfl (rruleVar (set3_block T2.out))) rfl ?_
    exact ⟨by rw [HR.out]; rfl, below_set3 B2.out (Nat.le_refl _)⟩
  have hn_elem := beq_no hXl hw
  have HN_elem := Lib.hid hw
  clear hw
  by_cases hw : [a, b, c, d, e] = [116, 117, 114, 110, 32]
  ·have hx1 := beq_yes hXl hw
   have hx2 := beq_no (m := [101, 108, 101, 109, 32]) hXl (by rw [hw]; decide)
   have HLW := Lib.hid (show s.data.toList = [116, 117, 114, 110, 32] ++ [v] by rw [hl, ← hw]; rfl)
   clear hw hXl hYl hl hv5 h6 h1
   go_wp2_with fail
   refine (letter_any Y HYS.out w2).mono ?_
   rintro e w' ⟨rfl, rfl⟩
   rw [HY.out]
   cases hv : isL v
   ·have HR := Lib.hid (show ruleOf s = .bad by rw [HM.out, HLW.out]; show (if isL v then _ else _) = _; rw [if_neg (by rw [hv]; decide)])
    clear hv
    go_wp2_with fail
    refine bodyPost_ret (v := .agg #[.int .i64 0, .int .u8 0, .string ⟨#[]⟩]) (results_cell Tryz.results52 rfl (rruleVar (set3_block T2.out))) rfl ?_
    exact ⟨by rw [HR.out]; rfl, below_set3 B2.out (Nat.le_refl _)⟩
   ·have HR := Lib.hid (show ruleOf s = .turn v by rw [HM.out, HLW.out]; show (if isL v then _ else _) = _; rw [if_pos hv])
    clear hv
    go_wp2_with fail
    refine bodyPost_ret (v := .agg #[.int .i64 5, .int .u8 (v.toNat : Int), .string ⟨#[]⟩]) (results_cell Tryz.results52 rfl (rruleVar (set3_block T2.out))) rfl ?_
    exact ⟨by rw [HR.out]; rfl, below_set3 B2.out (Nat.le_refl _)⟩
  have hn_turn := beq_no hXl hw
  have HN_turn := Lib.hid hw
  clear hw
  have HR := Lib.hid (show ruleOf s = .bad by
   rw [HM.out, hl]
   split
   ·rename_i h; simp at h
   ·rename_i h; simp only [List.cons.injEq] at h; obtain ⟨rfl, rfl, rfl, rfl, rfl, _⟩ := h; exact absurd rfl HN_elem.out
   ·rename_i h; simp only [List.cons.injEq] at h; obtain ⟨rfl, rfl, rfl, rfl, rfl, _⟩ := h; exact absurd rfl HN_turn.out
   ·rename_i h; simp at h
   ·rename_i h; simp at h
   ·rfl)
  clear hXl hYl hl hv5 h6 h1
  go_wp2_with fail
  refine bodyPost_ret (v := .agg #[.int .i64 0, .int .u8 0, .string ⟨#[]⟩]) (results_cell Tryz.results52 rfl (rruleVar (set3_block T2.out))) rfl ?_
  exact ⟨by rw [HR.out]; rfl, below_set3 B2.out (Nat.le_refl _)⟩
 by_cases h7 : s.size = 7
 ·obtain ⟨a, b, c, d, e, f, v, hl⟩ := seven_of h7
  have z7 : (s.size : Int) = 7 := by omega
  have z7b : ((s.size : Int) == 7) = true := beq_iff_eq.2 z7
  have n6b : ((s.size : Int) == 6) = false := beq_eq_false_iff_ne.2 (by omega)
  have n5b : ((s.size : Int) == 5) = false := beq_eq_false_iff_ne.2 (by omega)
  obtain ⟨X, hX⟩ : ∃ X, s.extract 0 6 = X := ⟨_, rfl⟩
  obtain ⟨Y, hY⟩ : ∃ Y, s.extract 6 s.size = Y := ⟨_, rfl⟩
  have hXl : X.data.toList = [a, b, c, d, e, f] := by rw [← hX, extract_toList, hl]; rfl
  have hYl : Y.data.toList = [v] := by rw [← hY, extract_toList, List.take_of_length_le (by rw [size_eq]; exact Nat.le_refl _), hl]; rfl
  have hY6 : s.extract 6 7 = Y := by rw [← hY, h7]
  have HY := Lib.hid (show letterL Y.data.toList = isL v by rw [hYl]; rfl)
  have HYS := Lib.hid (show Y.size ≤ 9223372036854775807 by rw [size_eq, hYl, List.length_singleton]; omega)
  have hix := fun w => ix_at' (s := s) (m := 6) (z := 6) rfl (by omega : 6 < s.size) w
  have hv5 : s[6]'(by omega) = v := by have := get_at' (s := s) (m := 6) (by omega); rw [hl] at this; exact (Option.some.inj this).symm
  rw [hv5] at hix
  have hz5 : (6 : Int) ≤ (s.size : Int) := by omega
  have hz5l : (6 : Int) < (s.size : Int) := by omega
  by_cases hw : [a, b, c, d, e, f] = [105, 110, 100, 101, 120, 94]
  ·have hx1 := beq_yes hXl hw
   have HLW := Lib.hid (show s.data.toList = [105, 110, 100, 101, 120, 94] ++ [v] by rw [hl, ← hw]; rfl)
   clear hw hXl hYl hl hv5 h7 h6 h1
   go_wp2_with fail
   refine (letter_any Y HYS.out w2).mono ?_
   rintro e w' ⟨rfl, rfl⟩
   rw [HY.out]
   cases hv : isL v
   ·have HR := Lib.hid (show ruleOf s = .bad by rw [HM.out, HLW.out]; show (if isL v then _ else _) = _; rw [if_neg (by rw [hv]; decide)])
    clear hv
    go_wp2_with fail
    refine bodyPost_ret (v := .agg #[.int .i64 0, .int .u8 0, .string ⟨#[]⟩]) (results_cell Tryz.results52 rfl (rruleVar (set3_block T2.out))) rfl ?_
    exact ⟨by rw [HR.out]; rfl, below_set3 B2.out (Nat.le_refl _)⟩
   ·have HR := Lib.hid (show ruleOf s = .index v by rw [HM.out, HLW.out]; show (if isL v then _ else _) = _; rw [if_pos hv])
    clear hv
    go_wp2_with fail
    refine bodyPost_ret (v := .agg #[.int .i64 6, .int .u8 (v.toNat : Int), .string ⟨#[]⟩]) (results_cell Tryz.results52 rfl (rruleVar (set3_block T2.out))) rfl ?_
    exact ⟨by rw [HR.out]; rfl, below_set3 B2.out (Nat.le_refl _)⟩
  have hn_index := beq_no hXl hw
  have HR := Lib.hid (show ruleOf s = .bad by
   rw [HM.out, hl]
   split
   ·rename_i h; simp at h
   ·rename_i h; simp at h
   ·rename_i h; simp at h
   ·rename_i h; simp only [List.cons.injEq] at h; obtain ⟨rfl, rfl, rfl, rfl, rfl, rfl, _⟩ := h; exact absurd rfl hw
   ·rename_i h; simp at h
   ·rfl)
  clear hw hXl hYl hl hv5 h7 h6 h1
  go_wp2_with fail
  refine bodyPost_ret (v := .agg #[.int .i64 0, .int .u8 0, .string ⟨#[]⟩]) (results_cell Tryz.results52 rfl (rruleVar (set3_block T2.out))) rfl ?_
  exact ⟨by rw [HR.out]; rfl, below_set3 B2.out (Nat.le_refl _)⟩
 by_cases h5 : s.size = 5
 rotate_left
 ·have HR := Lib.hid (show ruleOf s = .bad by
   rw [HM.out]
   rw [size_eq] at h1 h5 h6 h7
   split
   ·rename_i h; rw [h] at h1; exact absurd rfl h1
   ·rename_i h; rw [h] at h6; exact absurd rfl h6
   ·rename_i h; rw [h] at h6; exact absurd rfl h6
   ·rename_i h; rw [h] at h7; exact absurd rfl h7
   ·rename_i h; rw [h] at h5; exact absurd rfl h5
   ·rfl)
  have n6b : ((s.size : Int) == 6) = false := beq_eq_false_iff_ne.2 (by omega)
  have n7b : ((s.size : Int) == 7) = false := beq_eq_false_iff_ne.2 (by omega)
  have n5b : ((s.size : Int) == 5) = false := beq_eq_false_iff_ne.2 (by omega)
  clear h1 h5 h6 h7
  go_wp2_with fail
  refine bodyPost_ret (v := .agg #[.int .i64 0, .int .u8 0, .string ⟨#[]⟩]) (results_cell Tryz.results52 rfl (rruleVar (set3_block T2.out))) rfl ?_
  exact ⟨by rw [HR.out]; rfl, below_set3 B2.out (Nat.le_refl _)⟩
 obtain ⟨v, p, a, b, c, hl⟩ := five_of h5
 have z5 : (s.size : Int) = 5 := by omega
 have z5b : ((s.size : Int) == 5) = true := beq_iff_eq.2 z5
 have n6b : ((s.size : Int) == 6) = false := beq_eq_false_iff_ne.2 (by omega)
 have n7b : ((s.size : Int) == 7) = false := beq_eq_false_iff_ne.2 (by omega)
 obtain ⟨X, hX⟩ : ∃ X, s.extract 0 1 = X := ⟨_, rfl⟩
 obtain ⟨Y, hY⟩ : ∃ Y, s.extract 2 s.size = Y := ⟨_, rfl⟩
 have hXl : X.data.toList = [v] := by rw [← hX, extract_toList, hl]; rfl
 have hYl : Y.data.toList = [a, b, c] := by rw [← hY, extract_toList, List.take_of_length_le (by rw [size_eq]; exact Nat.le_refl _), hl]; rfl
 have hY5 : s.extract 2 5 = Y := by rw [← hY, h5]
 have HX := Lib.hid (show letterL X.data.toList = isL v by rw [hXl]; rfl)
 have HXS := Lib.hid (show X.size ≤ 9223372036854775807 by rw [size_eq, hXl, List.length_singleton]; omega)
 have hix := fun w => ix_at' (s := s) (m := 0) (z := 0) rfl (by omega : 0 < s.size) w
 have hix1 := fun w => ix_at' (s := s) (m := 1) (z := 1) rfl (by omega : 1 < s.size) w
 have e0 : s[0]'(by omega) = v := by have := get_at' (s := s) (m := 0) (by omega); rw [hl] at this; exact (Option.some.inj this).symm
 have e1 : s[1]'(by omega) = p := by have := get_at' (s := s) (m := 1) (by omega); rw [hl] at this; exact (Option.some.inj this).symm
 rw [e0] at hix
 rw [e1] at hix1
 have hpc := p.toNat_lt
 have hz0 : (0 : Int) < (s.size : Int) := by omega
 have hz1 : (1 : Int) < (s.size : Int) := by omega
 have hz2 : (2 : Int) ≤ (s.size : Int) := by omega
 have hz3 : (1 : Int) ≤ (s.size : Int) := by omega
 have HL := Lib.hid hl
 have HYL := Lib.hid hYl
 clear e0 e1 hXl hl hYl h1 h5 h6 h7
 go_wp2_with fail
 refine (letter_any X HXS.out w2).mono ?_
 rintro e w' ⟨rfl, rfl⟩
 rw [HX.out]
 cases hv : isL v
 ·have HR := Lib.hid (show ruleOf s = .bad by
   rw [HM.out, HL.out]
   split
   ·rename_i h; simp at h
   ·rename_i h; simp at h
   ·rename_i h; simp at h
   ·rename_i h; simp at h
   ·rename_i h; simp only [List.cons.injEq] at h; obtain ⟨rfl, rfl, rfl, rfl, rfl, _⟩ := h; rw [if_neg (by rw [hv]; decide)]
   ·rfl)
  clear hv
  go_wp2_with fail
  refine bodyPost_ret (v := .agg #[.int .i64 0, .int .u8 0, .string ⟨#[]⟩]) (results_cell Tryz.results52 rfl (rruleVar (set3_block T2.out))) rfl ?_
  exact ⟨by rw [HR.out]; rfl, below_set3 B2.out (Nat.le_refl _)⟩
 have HV := Lib.hid hv
 clear hv
 by_cases hp : p.toNat = 58
 rotate_left
 ·have hp1 : ¬ (p.toNat : Int) = 58 := by omega
  have hp2 : ((p.toNat : Int) == 58) = false := beq_eq_false_iff_ne.2 hp1
  have HR := Lib.hid (show ruleOf s = .bad by
   rw [HM.out, HL.out]
   split
   ·rename_i h; simp at h
   ·rename_i h; simp at h
   ·rename_i h; simp at h
   ·rename_i h; simp at h
   ·rename_i h; simp only [List.cons.injEq] at h; obtain ⟨_, rfl, _⟩ := h; exact absurd rfl hp
   ·rfl)
  clear hp
  go_wp2_with fail
  refine bodyPost_ret (v := .agg #[.int .i64 0, .int .u8 0, .string ⟨#[]⟩]) (results_cell Tryz.results52 rfl (rruleVar (set3_block T2.out))) rfl ?_
  exact ⟨by rw [HR.out]; rfl, below_set3 B2.out (Nat.le_refl _)⟩
 have hp1 : (p.toNat : Int) = 58 := by omega
 have hp2 : ((p.toNat : Int) == 58) = true := beq_iff_eq.2 hp1
 have HR0 := Lib.hid (show ruleOf s = (match clsOf [a, b, c] with | some k => .bind v k | none => .bad) by
  have hpe : p = 58 := UInt8.toNat_inj.1 hp
  rw [HM.out, HL.out, hpe]
  show (if isL v then _ else _) = _
  rw [if_pos HV.out])
 clear hp
 by_cases hc0 : [a, b, c] = [105, 110, 116]
 ·have hy0 := beq_yes HYL.out hc0
  have HR := Lib.hid (show ruleOf s = .bind v .int by rw [HR0.out, hc0]; rfl)
  have HYE := Lib.hid (show Y = ⟨[105, 110, 116].toArray⟩ from bytes_of (HYL.out.trans hc0))
  clear hc0
  go_wp2_with fail
  refine bodyPost_ret (v := .agg #[.int .i64 2, .int .u8 (v.toNat : Int), .string Y]) (results_cell Tryz.results52 rfl (rruleVar (set3_block T2.out))) rfl ?_
  exact ⟨by rw [HR.out, HYE.out]; rfl, below_set3 B2.out (Nat.le_refl _)⟩
 have hy0 := beq_no HYL.out hc0
 by_cases hc1 : [a, b, c] = [110, 117, 109]
 ·have hy1 := beq_yes HYL.out hc1
  have HR := Lib.hid (show ruleOf s = .bind v .num by rw [HR0.out, hc1]; rfl)
  have HYE := Lib.hid (show Y = ⟨[110, 117, 109].toArray⟩ from bytes_of (HYL.out.trans hc1))
  clear hc0 hc1
  go_wp2_with fail
  refine bodyPost_ret (v := .agg #[.int .i64 2, .int .u8 (v.toNat : Int), .string Y]) (results_cell Tryz.results52 rfl (rruleVar (set3_block T2.out))) rfl ?_
  exact ⟨by rw [HR.out, HYE.out]; rfl, below_set3 B2.out (Nat.le_refl _)⟩
 have hy1 := beq_no HYL.out hc1
 by_cases hc2 : [a, b, c] = [109, 101, 109]
 ·have hy2 := beq_yes HYL.out hc2
  have HR := Lib.hid (show ruleOf s = .bind v .mem by rw [HR0.out, hc2]; rfl)
  have HYE := Lib.hid (show Y = ⟨[109, 101, 109].toArray⟩ from bytes_of (HYL.out.trans hc2))
  clear hc0 hc1 hc2
  go_wp2_with fail
  refine bodyPost_ret (v := .agg #[.int .i64 2, .int .u8 (v.toNat : Int), .string Y]) (results_cell Tryz.results52 rfl (rruleVar (set3_block T2.out))) rfl ?_
  exact ⟨by rw [HR.out, HYE.out]; rfl, below_set3 B2.out (Nat.le_refl _)⟩
 have hy2 := beq_no HYL.out hc2
 by_cases hc3 : [a, b, c] = [97, 114, 114]
 ·have hy3 := beq_yes HYL.out hc3
  have HR := Lib.hid (show ruleOf s = .bind v .arr by rw [HR0.out, hc3]; rfl)
  have HYE := Lib.hid (show Y = ⟨[97, 114, 114].toArray⟩ from bytes_of (HYL.out.trans hc3))
  clear hc0 hc1 hc2 hc3
  go_wp2_with fail
  refine bodyPost_ret (v := .agg #[.int .i64 2, .int .u8 (v.toNat : Int), .string Y]) (results_cell Tryz.results52 rfl (rruleVar (set3_block T2.out))) rfl ?_
  exact ⟨by rw [HR.out, HYE.out]; rfl, below_set3 B2.out (Nat.le_refl _)⟩
 have hy3 := beq_no HYL.out hc3
 by_cases hc4 : [a, b, c] = [97, 110, 121]
 ·have hy4 := beq_yes HYL.out hc4
  have HR := Lib.hid (show ruleOf s = .bind v .any by rw [HR0.out, hc4]; rfl)
  have HYE := Lib.hid (show Y = ⟨[97, 110, 121].toArray⟩ from bytes_of (HYL.out.trans hc4))
  clear hc0 hc1 hc2 hc3 hc4
  go_wp2_with fail
  refine bodyPost_ret (v := .agg #[.int .i64 2, .int .u8 (v.toNat : Int), .string Y]) (results_cell Tryz.results52 rfl (rruleVar (set3_block T2.out))) rfl ?_
  exact ⟨by rw [HR.out, HYE.out]; rfl, below_set3 B2.out (Nat.le_refl _)⟩
 have hy4 := beq_no HYL.out hc4
 have HR := Lib.hid (show ruleOf s = .bad by rw [HR0.out]; unfold clsOf; rw [if_neg hc0, if_neg hc1, if_neg hc2, if_neg hc3, if_neg hc4])
 clear hc0 hc1 hc2 hc3 hc4
 go_wp2_with fail
 refine bodyPost_ret (v := .agg #[.int .i64 0, .int .u8 0, .string ⟨#[]⟩]) (results_cell Tryz.results52 rfl (rruleVar (set3_block T2.out))) rfl ?_
 exact ⟨by rw [HR.out]; rfl, below_set3 B2.out (Nat.le_refl _)⟩
end Go.Proofs.YtgimdkgjfenafaaGreatDoor
