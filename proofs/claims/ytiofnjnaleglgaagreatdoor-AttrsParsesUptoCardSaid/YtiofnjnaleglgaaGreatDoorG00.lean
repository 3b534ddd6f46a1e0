/-
  Texts of mine in one file: A.
-/
import Derived.Test.YtiofnjnaleglgaaGreatDoorProg
import Derived.WalkKit
import Derived.WalkSpells
import Derived.WalkLawsBesides
import Derived.Laws.EntriesVeiled
import Derived.Lib.Hide
/-
  The smallest functions of package types by contracts: the predicates on characters, 'only' and 'reader', whatever the world is.
-/
namespace Go.Proofs.YtiofnjnaleglgaaGreatDoor
open Go.RowKit

def chLetter (c : Int) : Bool := decide (97 ≤ c) && decide (c ≤ 122)
def chDigit (c : Int) : Bool := decide (48 ≤ c) && decide (c ≤ 57)
def chPart (c : Int) : Bool := chLetter c || chDigit c || decide (c = 95)

set_option maxHeartbeats 400000 in
theorem isLetter_any (c : Int) (w : World) :
    Calls Tryz.prog 188 #[.int .i32 c] w fun e w' => e = .returned (.bool (chLetter c)) ∧ w = w' := by
  by_cases h1 : 97 ≤ c <;> by_cases h2 : c ≤ 122 <;>
  · go_enter Tryz.func188, Tryz.ntmps188
    go_wp2
    go_ret
    exact ⟨by simp [chLetter, h1, h2], rfl⟩

set_option maxHeartbeats 400000 in
theorem isDigit_any (c : Int) (w : World) :
    Calls Tryz.prog 193 #[.int .i32 c] w fun e w' => e = .returned (.bool (chDigit c)) ∧ w = w' := by
  by_cases h1 : 48 ≤ c <;> by_cases h2 : c ≤ 57 <;>
  · go_enter Tryz.func193, Tryz.ntmps193
    go_wp2
    go_ret
    exact ⟨by simp [chDigit, h1, h2], rfl⟩

set_option maxHeartbeats 400000 in
theorem anything_any (c : Int) (w : World) :
    Calls Tryz.prog 179 #[.int .i32 c] w fun e w' => e = .returned (.bool true) ∧ w = w' := by
  go_enter Tryz.func179, Tryz.ntmps179
  go_wp2
  go_ret
  exact ⟨rfl, rfl⟩

set_option maxHeartbeats 400000 in
theorem only1_any (c x : Int) (b : Nat) (w : World) (hc : w.cell? ⟨b, 0, none⟩ = some (.int .i32 x)) :
    Calls Tryz.prog 195 #[.int .i32 c, .pointer (some ⟨b, 0, none⟩)] w fun e w' => e = .returned (.bool (c == x)) ∧ w = w' := by
  go_enter Tryz.func195, Tryz.ntmps195
  go_wp2
  go_ret
  exact ⟨rfl, rfl⟩

set_option maxHeartbeats 400000 in
theorem only_any (x : Int) (w : World) :
    Calls Tryz.prog 189 #[.int .i32 x] w fun e w' => e = .returned (.func (.func 195) #[] #[.pointer (some ⟨w.heap.size, 0, none⟩)]) ∧ w.alloc (.cells #[.int .i32 x] 21) = w' := by
  go_enter Tryz.func189, Tryz.ntmps189
  go_wp2
  go_ret
  exact ⟨rfl, rfl⟩

set_option maxHeartbeats 400000 in
theorem reader_any (s : ByteArray) (w : World) :
    Calls Tryz.prog 176 #[.string s] w fun e w' => e = .returned (.func (.func 187) #[] #[.pointer (some ⟨w.heap.size, 0, none⟩)]) ∧ w.alloc (.cells #[.string s] 9) = w' := by
  go_enter Tryz.func176, Tryz.ntmps176
  go_wp2
  go_ret
  exact ⟨rfl, rfl⟩

set_option maxHeartbeats 400000 in
theorem isPart_any (c : Int) (w : World) :
    Calls Tryz.prog 196 #[.int .i32 c] w fun e w' => e = .returned (.bool (chPart c)) ∧ w = w' := by
  cases h1 : chLetter c <;> cases h2 : chDigit c <;> by_cases h3 : c = 95 <;>
  · go_enter Tryz.func196, Tryz.ntmps196
    go_wp2_with (first | (go_at_call 188; refine (isLetter_any _ _).mono ?_; rintro e w' ⟨rfl, rfl⟩) | (go_at_call 193; refine (isDigit_any _ _).mono ?_; rintro e w' ⟨rfl, rfl⟩))
    go_ret
    exact ⟨by simp [chPart, h1, h2, h3], rfl⟩

end Go.Proofs.YtiofnjnaleglgaaGreatDoor

