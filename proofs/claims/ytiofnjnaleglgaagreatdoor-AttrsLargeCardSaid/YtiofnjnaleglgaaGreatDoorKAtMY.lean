/-
  The hundred attributes that the law 'AttrsSets' makes: their names, and what the calls say of them.
-/
import Derived.Test.YtiofnjnaleglgaaGreatDoorJAtRS
import Derived.Test.YtiofnjnaleglgaaGreatDoorG32
import Derived.Test.YtiofnjnaleglgaaGreatDoorG24
import Derived.Test.YtiofnjnaleglgaaGreatDoorG40
namespace Go.Proofs.YtiofnjnaleglgaaGreatDoor
open Go.RowKit

/-- The i-th name. -/
def nmN (i : Nat) : ByteArray := ⟨#[97, UInt8.ofNat (97 + i / 10), UInt8.ofNat (97 + i % 10)]⟩
def manyA (i : Nat) : At := ⟨nmN i, 0, 0, ⟨#[]⟩, [], []⟩
def manyE (n : Nat) : List El := (List.range n).map fun i => ⟨manyA i, none, 0, none, 0⟩
def manyL (n : Nat) : List At := (List.range n).map manyA
theorem manyE_len (n : Nat) : (manyE n).length = n := by unfold manyE; rw [List.length_map, List.length_range]
theorem manyL_len (n : Nat) : (manyL n).length = n := by unfold manyL; rw [List.length_map, List.length_range]
theorem manyE_snoc (n : Nat) : manyE (n + 1) = manyE n ++ [⟨manyA n, none, 0, none, 0⟩] := by unfold manyE; rw [List.range_succ, List.map_append]; rfl
theorem manyE_map (n : Nat) : (manyE n).map (fun x : El => x.a) = manyL n := by unfold manyE manyL; rw [List.map_map]; rfl
theorem nth_many {n j : Nat} (h : j < n) : nth (manyL n) j = manyA j := by
  rw [nth_get (by rw [manyL_len]; exact h)]
  unfold manyL
  rw [List.getElem_map, List.getElem_range]
theorem many_rightB : ∀ j, j < 100 → rightB (manyA j) = true := by decide +kernel
theorem many_less : ∀ j, j < 99 → Lib.compareBytes (nmN j).data.toList (nmN (j + 1)).data.toList = -1 := by decide +kernel
theorem many_right : rightL (manyL 100) = true := by
  refine (rightL_iff _).2 ⟨by rw [manyL_len]; decide, fun j hj => ?_⟩
  rw [manyL_len] at hj
  unfold goodAt
  rw [nth_many hj, many_rightB j hj, Bool.true_and, Bool.or_eq_true, decide_eq_true_iff]
  rcases j with _ | j
  · exact .inl rfl
  · refine .inr ?_
    rw [Nat.add_sub_cancel, nth_many (by omega)]
    exact less_of (many_less j (by omega))
theorem many_wf (i : Nat) : (manyA i).Wf :=
  ⟨⟨(by decide : (-9223372036854775808 : Int) ≤ 0), (by decide : (0 : Int) ≤ 9223372036854775807)⟩, ⟨(by decide : (-9223372036854775808 : Int) ≤ 0), (by decide : (0 : Int) ≤ 9223372036854775807)⟩, fun z hz => (by cases hz), Nat.zero_le _, Nat.zero_le _⟩
def bA : At := ⟨⟨#[98]⟩, 0, 0, ⟨#[]⟩, [], []⟩
def aaaA : At := ⟨⟨#[97, 97, 97]⟩, 0, 1, ⟨#[]⟩, [], []⟩
theorem bA_right : rightL [bA] = true := (rightL_rise _).2 ⟨by decide, fun a ha => by rw [List.mem_singleton.1 ha]; kernel_rfl, ⟨fun _ h => (by cases h), trivial⟩⟩
theorem aaa_right : rightL [aaaA] = true := (rightL_rise _).2 ⟨by decide, fun a ha => by rw [List.mem_singleton.1 ha]; kernel_rfl, ⟨fun _ h => (by cases h), trivial⟩⟩
theorem bA_wf : bA.Wf := ⟨⟨by decide, by decide⟩, ⟨by decide, by decide⟩, fun z hz => (by cases hz), by decide, by decide⟩
theorem aaa_wf : aaaA.Wf := ⟨⟨by decide, by decide⟩, ⟨by decide, by decide⟩, fun z hz => (by cases hz), by decide, by decide⟩
theorem one_last {a : At} : ∀ {l : List At}, (∀ x ∈ l, cmpA x a < 0) → mergeL l [a] = l ++ [a]
  | [], _ => one_nil
  | x :: l, h => by
    rw [one_lt (h x (List.mem_cons_self ..)), one_last (fun y hy => h y (List.mem_cons_of_mem _ hy))]
    rfl
theorem many_lt_b : ∀ j, j < 100 → cmpA (manyA j) bA < 0 := by decide +kernel
theorem many_b : mergeErr (manyL 100) [bA] = 2 := by
  refine mergeErr_big (by rw [many_right, bA_right]; rfl) ?_
  rw [one_last, List.length_append, manyL_len]
  · decide
  · intro x hx
    unfold manyL at hx
    obtain ⟨j, hj, rfl⟩ := List.mem_map.1 hx
    exact many_lt_b j (List.mem_range.1 hj)
theorem many_cons : manyL 100 = manyA 0 :: (manyL 100).tail := by kernel_rfl
theorem many_aaa : mergeErr (manyL 100) [aaaA] = 0 ∧ mergeOut (manyL 100) [aaaA] = aaaA :: (manyL 100).tail := by
  have h1 : mergeL (manyL 100) [aaaA] = aaaA :: (manyL 100).tail := by
    rw [many_cons]
    exact one_eq (by decide)
  have h2 := mergeErr_ok (l := manyL 100) (m := [aaaA]) (by rw [many_right, aaa_right]; rfl) (by rw [h1, List.length_cons, List.length_tail, manyL_len]; decide)
  exact ⟨h2, by rw [mergeOut_ok h2, h1]⟩
end Go.Proofs.YtiofnjnaleglgaaGreatDoor
