/-
  The reference's 'IsName' and 'IsPair' by contracts.
-/
import Derived.Test.YtjkhjflemcljdaaGreatDoorYA
namespace Go.Proofs.YtjkhjflemcljdaaGreatDoor
open Go.RowKit

def IsNamePost (s : ByteArray) (w : World) (e : Ending) (w' : World) : Prop := e = .returned (.bool (isNameR s.data.toList)) ∧ w = w'
theorem isNamePost_of {s : ByteArray} {b : Bool} {w : World} (h : isNameR s.data.toList = b) : IsNamePost s w (.returned (.bool b)) w := ⟨by rw [h], rfl⟩
theorem headLetter_at {s : ByteArray} (h : 0 < s.size) : headLetter s.data.toList = bLetter (s[0]'h) := by
  have := head_at s h
  cases hl : s.data.toList with
  | nil => rw [hl] at this; cases this
  | cons c l =>
    rw [hl] at this
    have e : c = s[0]'h := Option.some.inj this
    rw [← e]; rfl
theorem name_no {l : List UInt8} (h : ¬ (l.length ≤ 60 ∧ headLetter l = true ∧ l.all bPart = true)) : isNameR l = false := by
  cases hz : isNameR l
  · rfl
  · exact absurd ((isNameR_iff l).1 hz) h
theorem part_step {s : ByteArray} {m : Nat} (h : (s.data.toList.take m).all bPart = true) (hm : m < s.size) (hp : bPart (s[m]'hm) = true) : (s.data.toList.take (m + 1)).all bPart = true := by
  have hl : m < s.data.toList.length := by simpa using hm
  rw [take_snoc hl, all_snoc, h, Bool.true_and]
  exact hp
theorem part_bad {s : ByteArray} {m : Nat} (hm : m < s.size) (hp : ¬ bPart (s[m]'hm) = true) : isNameR s.data.toList = false := name_no fun h => hp (by
  have := h.2.2
  rw [List.all_eq_true] at this
  exact this _ (List.getElem_mem (show m < s.data.toList.length by simpa using hm)))

set_option maxHeartbeats 1000000 in
set_option maxRecDepth 100000 in
theorem IsName_ref (s : ByteArray) (w : World) : Calls Tryz.prog 58 #[.string s] w (IsNamePost s w) := by
  cases h0 : s.toList.isEmpty
  · have hne := nonempty_of h0
    have hpos : 0 < s.size := by rw [size_eq]; exact List.length_pos_iff.2 hne
    have hb := (s[0]'hpos).toNat_lt
    by_cases h60 : 60 < s.size
    · have hs := Lib.hid (name_no (l := s.data.toList) (fun h => by have := h.1; simp at this; omega))
      clear hne
      go_enter Tryz.func58, Tryz.ntmps58
      go_wp2_with fail
      go_ret
      exact isNamePost_of hs.out
    · by_cases hlet : 97 ≤ (s[0]'hpos).toNat ∧ (s[0]'hpos).toNat ≤ 122
      · have hL := Lib.hid (show headLetter s.data.toList = true by rw [headLetter_at hpos]; exact (letter_iff _).2 hlet)
        have hl := hlet.1
        have hr := hlet.2
        have hfirst : Hid ((s.data.toList.take 1).all bPart = true) := part_step (m := 0) (by simp) hpos (letter_part ((letter_iff _).2 hlet))
        clear hne hlet
        go_enter Tryz.func58, Tryz.ntmps58
        go_wp2_with fail
        go_loopw [3] (fun i wr => ∃ m : Nat, m ≤ s.size ∧ i = .int .i64 m ∧ Hid ((s.data.toList.take m).all bPart = true) ∧ wr = w) (fun i _ => s.size - (intOf i).toNat)
        case atStart => exact ⟨1, hpos, rfl, hfirst, rfl⟩
        case round =>
          obtain ⟨m, hms, rfl, hall, rfl⟩ := hrel
          by_cases hlt : m < s.size
          · have hbm := (s[m]'hlt).toNat_lt
            have hp := part_iff (s[m]'hlt)
            by_cases c1 : 97 ≤ (s[m]'hlt).toNat
            · by_cases c2 : (s[m]'hlt).toNat ≤ 122
              · have hq := Lib.hid (hp.2 (.inl ⟨c1, c2⟩))
                clear hp
                go_wp2_with fail
                all_goals
                  go_roundw
                  case rel => exact ⟨m + 1, by omega, by go_num, part_step hall.out hlt hq.out, trivial⟩
                  case measure => simp [intOf]; omega
              · have hq := Lib.hid (part_bad hlt (fun h => by rcases hp.1 h with h | h | h <;> omega))
                have c3 : 57 < (s[m]'hlt).toNat := by omega
                have c5 : (((s[m]'hlt).toNat : Int) == 95) = false := by rw [beq_eq_false_iff_ne]; omega
                have d2 : decide (((s[m]'hlt).toNat : Int) ≤ 122) = false := decide_eq_false (by omega)
                have d4 : decide (((s[m]'hlt).toNat : Int) ≤ 57) = false := decide_eq_false (by omega)
                clear hp
                go_wp2_with fail
                go_ret
                exact isNamePost_of hq.out
            · by_cases c3 : 48 ≤ (s[m]'hlt).toNat
              · by_cases c4 : (s[m]'hlt).toNat ≤ 57
                · have hq := Lib.hid (hp.2 (.inr (.inl ⟨c3, c4⟩)))
                  clear hp
                  go_wp2_with fail
                  all_goals
                    go_roundw
                    case rel => exact ⟨m + 1, by omega, by go_num, part_step hall.out hlt hq.out, trivial⟩
                    case measure => simp [intOf]; omega
                · cases c5 : (((s[m]'hlt).toNat : Int) == 95)
                  · have hq := Lib.hid (part_bad hlt (fun h => by rw [beq_eq_false_iff_ne] at c5; rcases hp.1 h with h | h | h <;> omega))
                    have d1 : decide (97 ≤ ((s[m]'hlt).toNat : Int)) = false := decide_eq_false (by omega)
                    have d4 : decide (((s[m]'hlt).toNat : Int) ≤ 57) = false := decide_eq_false (by omega)
                    clear hp
                    go_wp2_with fail
                    go_ret
                    exact isNamePost_of hq.out
                  · have hq := Lib.hid (hp.2 (.inr (.inr (by rw [beq_iff_eq] at c5; omega))))
                    clear hp
                    go_wp2_with fail
                    all_goals
                      go_roundw
                      case rel => exact ⟨m + 1, by omega, by go_num, part_step hall.out hlt hq.out, trivial⟩
                      case measure => simp [intOf]; omega
              · have hq := Lib.hid (part_bad hlt (fun h => by rcases hp.1 h with h | h | h <;> omega))
                have c5 : (((s[m]'hlt).toNat : Int) == 95) = false := by rw [beq_eq_false_iff_ne]; omega
                clear hp
                go_wp2_with fail
                go_ret
                exact isNamePost_of hq.out
          · obtain rfl : m = s.size := by omega
            have hq : Hid (isNameR s.data.toList = true) := (isNameR_iff _).2 ⟨by simp; omega, hL.out, by have := hall.out; rwa [List.take_of_length_le (by simp)] at this⟩
            go_wp2_with fail
            go_ret
            exact isNamePost_of hq.out
      · have hs := Lib.hid (name_no (l := s.data.toList) (fun h => by have := h.2.1; rw [headLetter_at hpos] at this; exact hlet ((letter_iff _).1 this)))
        clear hne
        by_cases hl : 97 ≤ (s[0]'hpos).toNat
        · have hr : ¬ (s[0]'hpos).toNat ≤ 122 := fun h => hlet ⟨hl, h⟩
          clear hlet
          go_enter Tryz.func58, Tryz.ntmps58
          go_wp2_with fail
          go_ret
          exact isNamePost_of hs.out
        · clear hlet
          go_enter Tryz.func58, Tryz.ntmps58
          go_wp2_with fail
          go_ret
          exact isNamePost_of hs.out
  · have hs := Lib.hid (show isNameR s.data.toList = false by rw [empty_of h0]; rfl)
    go_enter Tryz.func58, Tryz.ntmps58
    go_wp2_with fail
    go_ret
    exact isNamePost_of hs.out

def IsPairPost (s : ByteArray) (most : Nat) (w : World) (e : Ending) (w' : World) : Prop := e = .returned (.bool (isPairR s.data.toList most)) ∧ w = w'
theorem isPairPost_of {s : ByteArray} {most : Nat} {b : Bool} {w : World} (h : isPairR s.data.toList most = b) : IsPairPost s most w (.returned (.bool b)) w := ⟨by rw [h], rfl⟩
theorem pair_at {s : ByteArray} {most m : Nat} (hle : s.size ≤ most) (h : (s.data.toList.take m).all notDot = true) (hm : m < s.size) (hd : notDot (s[m]'hm) = false) :
    isPairR s.data.toList most = (isNameR (s.data.toList.take m) && isNameR (s.data.toList.drop (m + 1))) := by
  have hl : m < s.data.toList.length := by simpa using hm
  have hcat : s.data.toList = s.data.toList.take m ++ s[m]'hm :: s.data.toList.drop (m + 1) := by
    conv => lhs; rw [← List.take_append_drop m s.data.toList, List.drop_eq_getElem_cons hl]
    rfl
  obtain ⟨h1, h2⟩ := tw_append (p := notDot) (m := s[m]'hm :: s.data.toList.drop (m + 1)) h
  rw [← hcat] at h1 h2
  simp only [List.takeWhile_cons, hd, List.dropWhile_cons, List.append_nil, Bool.false_eq_true, if_false] at h1 h2
  unfold isPairR
  rw [h1, h2, decide_eq_true (by simpa using hle), Bool.true_and, List.tail_cons]
  rfl
theorem pair_never {s : ByteArray} {most : Nat} (h : s.data.toList.all notDot = true) : isPairR s.data.toList most = false := by
  unfold isPairR
  rw [(tw_all h).2]
  simp
theorem dot_step {s : ByteArray} {m : Nat} (h : (s.data.toList.take m).all notDot = true) (hm : m < s.size) (hp : notDot (s[m]'hm) = true) : (s.data.toList.take (m + 1)).all notDot = true := by
  have hl : m < s.data.toList.length := by simpa using hm
  rw [take_snoc hl, all_snoc, h, Bool.true_and]
  exact hp
theorem front_extract (s : ByteArray) (m : Nat) : (s.extract 0 m).data.toList = s.data.toList.take m := by
  rw [extract_toList, List.drop_zero]
theorem back_extract (s : ByteArray) (m : Nat) : (s.extract m s.size).data.toList = s.data.toList.drop m := by
  rw [extract_toList, List.take_of_length_le (by simp)]
theorem IsName_some (s : ByteArray) (w : World) : Calls Tryz.prog 58 #[.string s] w fun e w' => ∃ b, e = .returned (.bool b) ∧ isNameR s.data.toList = b ∧ w = w' :=
  (IsName_ref s w).mono fun _ _ ⟨he, hw⟩ => ⟨_, he, rfl, hw⟩

set_option maxHeartbeats 1000000 in
set_option maxRecDepth 100000 in
theorem IsPair_ref (s : ByteArray) (most : Nat) (hmost : most < 1000) (w : World) : Calls Tryz.prog 41 #[.string s, .int .i64 most] w (IsPairPost s most w) := by
  by_cases hle : s.size ≤ most
  · go_enter Tryz.func41, Tryz.ntmps41
    go_wp2_with fail
    go_loopw [5] (fun i wr => ∃ m : Nat, m ≤ s.size ∧ i = .int .i64 m ∧ Hid ((s.data.toList.take m).all notDot = true) ∧ wr = w) (fun i _ => s.size - (intOf i).toNat)
    case atStart => exact ⟨0, Nat.zero_le _, rfl, rfl, rfl⟩
    case round =>
      obtain ⟨m, hms, rfl, hall, rfl⟩ := hrel
      by_cases hlt : m < s.size
      · have hb := (s[m]'hlt).toNat_lt
        cases hd : (((s[m]'hlt).toNat : Int) == 46)
        · have hq := Lib.hid (show notDot (s[m]'hlt) = true by unfold notDot bIs; rw [hd]; rfl)
          go_wp2_with fail
          go_roundw
          case rel => exact ⟨m + 1, by omega, by go_num, dot_step hall.out hlt hq.out, trivial⟩
          case measure => simp [intOf]; omega
        · have hq := Lib.hid (pair_at hle hall.out hlt (show notDot (s[m]'hlt) = false by unfold notDot bIs; rw [hd]; rfl))
          go_wp2_with fail
          refine (IsName_some _ _).mono ?_
          rintro e w1 ⟨b1, rfl, h1, rfl⟩
          rw [front_extract] at h1
          have H1 := Lib.hid h1
          clear h1
          cases b1
          · go_wp2_with fail
            go_ret
            exact isPairPost_of (by rw [hq.out, H1.out]; rfl)
          · go_wp2_with fail
            refine (IsName_some _ _).mono ?_
            rintro e w1 ⟨b2, rfl, h2, rfl⟩
            rw [back_extract] at h2
            have H2 := Lib.hid h2
            clear h2
            go_wp2_with fail
            go_ret
            exact isPairPost_of (by rw [hq.out, H1.out, H2.out]; rfl)
      · obtain rfl : m = s.size := by omega
        have hq : Hid (isPairR s.data.toList most = false) := pair_never (by have := hall.out; rwa [List.take_of_length_le (by simp)] at this)
        go_wp2_with fail
        go_ret
        exact isPairPost_of hq.out
  · have hs := Lib.hid (show isPairR s.data.toList most = false by
      unfold isPairR
      rw [decide_eq_false (by simpa using hle)]
      rfl)
    go_enter Tryz.func41, Tryz.ntmps41
    go_wp2_with fail
    go_loopw [5] (fun i wr => i = .int .i64 0 ∧ wr = w) (fun _ _ => 0)
    case atStart => exact ⟨rfl, rfl⟩
    case round =>
      obtain ⟨rfl, rfl⟩ := hrel
      go_wp2_with fail
      all_goals go_ret
      all_goals exact isPairPost_of hs.out
end Go.Proofs.YtjkhjflemcljdaaGreatDoor
