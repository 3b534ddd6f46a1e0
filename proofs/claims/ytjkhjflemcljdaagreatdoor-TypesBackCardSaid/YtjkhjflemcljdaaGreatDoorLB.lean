/-
  What the reference's 'Split' says of a string, as a plain function, and that the program's parts say the same.
-/
import Derived.Test.YtjkhjflemcljdaaGreatDoorLA
namespace Go.Proofs.YtjkhjflemcljdaaGreatDoor
open Go.RowKit

/-- The reference's 'Split'. -/
def splitR (l : List UInt8) : Option (List (List UInt8)) :=
  if 2 ≤ l.length ∧ l.head? = some 40 ∧ l.getLast? = some 41 then (if l.tail.dropLast = [] then some [] else splitL (l.tail.dropLast.length + 1) l.tail.dropLast) else none

theorem inner_iff (l : List UInt8) : splitInner l = if 2 ≤ l.length ∧ l.head? = some 40 ∧ l.getLast? = some 41 then some l.tail.dropLast else none := by
  cases l with
  | nil => rfl
  | cons c t =>
    by_cases hc : c = 40
    · subst hc
      have hp : Lib.hasPrefix (40 :: t) [40] = true := by simp [Lib.hasPrefix]
      have ht : Lib.trimPrefix (40 :: t) [40] = t := by rw [Lib.trimPrefix, if_pos hp]; rfl
      unfold splitInner
      rw [hp, ht]
      by_cases hs : t.getLast? = some 41
      · obtain ⟨inner, rfl⟩ := List.getLast?_eq_some_iff.1 hs
        have h2 : Lib.hasSuffix (inner ++ [41]) [41] = true := by rw [Lib.hasSuffix, List.isSuffixOf_iff_suffix]; exact ⟨inner, rfl⟩
        have h3 : Lib.trimSuffix (inner ++ [41]) [41] = inner := by rw [Lib.trimSuffix, if_pos h2]; simp
        have h4 : (40 :: (inner ++ [41])).getLast? = some (41 : UInt8) := by rw [last_cons (by simp)]; exact hs
        rw [if_pos ⟨rfl, h2⟩, h3, if_pos ⟨by simp, rfl, h4⟩, List.tail_cons, List.dropLast_concat]
      · have h2 : ¬ Lib.hasSuffix t [41] = true := by
          rw [Lib.hasSuffix, List.isSuffixOf_iff_suffix]
          rintro ⟨x, rfl⟩
          exact hs List.getLast?_concat
        rw [if_neg (fun h => h2 h.2), if_neg]
        rintro ⟨h1, _, h3⟩
        cases t with
        | nil => simp at h1
        | cons a t => exact hs (by rw [← h3]; exact (last_cons (by simp)).symm)
    · rw [splitInner, if_neg, if_neg]
      · rintro ⟨_, h, _⟩
        exact hc (Option.some.inj h)
      · rintro ⟨h, _⟩
        rw [Lib.hasPrefix] at h
        simp [List.isPrefixOf] at h
        exact hc h.symm

theorem parts_yes {l : List UInt8} (h : partsOk l = true) : splitL (l.length + 1) l = some ((splitParts l).map (·.data.toList)) ∧ (splitParts l).length ≤ 100 := by
  unfold partsOk at h
  rw [Bool.and_eq_true, decide_eq_true_iff, List.all_eq_true] at h
  obtain ⟨hne, hj⟩ := splitB_join (min 101 (l.length + 1) - 1) ⟨l.toArray⟩
  have hj' : Lib.join ((splitParts l).map (·.data.toList)) gap = l := hj
  refine ⟨?_, h.1⟩
  have := join_split ((splitParts l).map (·.data.toList)) (l.length + 1) (fun e => hne (List.map_eq_nil_iff.1 e)) (fun p hp => by
    obtain ⟨s, hs, rfl⟩ := List.mem_map.1 hp
    rw [← isTy_isTyR]
    exact h.2 s hs) (by rw [hj']; omega)
  rw [hj'] at this
  exact this

theorem split_agree (l : List UInt8) : (partsOk l = true ∧ splitL (l.length + 1) l = some ((splitParts l).map (·.data.toList)) ∧ (splitParts l).length ≤ 100) ∨
    (partsOk l = false ∧ (splitL (l.length + 1) l = none ∨ ∃ ps, splitL (l.length + 1) l = some ps ∧ 100 < ps.length)) := by
  cases hp : partsOk l
  · refine .inr ⟨rfl, ?_⟩
    cases hs : splitL (l.length + 1) l with
    | none => exact .inl rfl
    | some ps =>
      refine .inr ⟨ps, rfl, Nat.lt_of_not_le fun hle => ?_⟩
      obtain ⟨hne, hj, hall⟩ := split_join _ _ _ hs
      have hlen := join_len ps
      rw [← hj] at hlen
      have hb : (splitParts l).map (·.data.toList) = ps := parts_back ps (min 101 (l.length + 1) - 1) ⟨l.toArray⟩ hne (fun p hp => ty_comma (hall p hp)) (by omega) (by simpa using hj)
      have hyes : partsOk l = true := by
        unfold partsOk
        rw [Bool.and_eq_true, decide_eq_true_iff, List.all_eq_true]
        refine ⟨?_, fun s hs => ?_⟩
        · have := congrArg List.length hb
          rw [List.length_map] at this
          omega
        · rw [isTy_isTyR]
          exact hall _ (hb ▸ List.mem_map.2 ⟨s, hs, rfl⟩)
      rw [hp] at hyes
      cases hyes
  · exact .inl ⟨rfl, parts_yes hp⟩
end Go.Proofs.YtjkhjflemcljdaaGreatDoor
