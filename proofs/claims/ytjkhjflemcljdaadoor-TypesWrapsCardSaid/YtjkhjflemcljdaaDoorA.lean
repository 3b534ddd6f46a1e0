/-
  The smallest functions of package types by contracts: the predicates on characters, 'only' and 'reader', whatever the world is.
-/
import Derived.Test.YtjkhjflemcljdaaDoorProg
import Derived.WalkKit
import Derived.WalkSpells
import Derived.WalkLawsBesides
import Derived.Laws.EntriesVeiled
import Derived.Lib.Hide
namespace Go.Proofs.YtjkhjflemcljdaaDoor
open Go.RowKit

def chLetter (c : Int) : Bool := decide (97 ≤ c) && decide (c ≤ 122)
def chDigit (c : Int) : Bool := decide (48 ≤ c) && decide (c ≤ 57)
def chPart (c : Int) : Bool := chLetter c || chDigit c || decide (c = 95)

set_option maxHeartbeats 400000 in
theorem isLetter_any (c : Int) (w : World) :
    Calls Tryd.prog 42 #[.int .i32 c] w fun e w' => e = .returned (.bool (chLetter c)) ∧ w = w' := by
  by_cases h1 : 97 ≤ c <;> by_cases h2 : c ≤ 122 <;>
  · go_enter Tryd.func42, Tryd.ntmps42
    go_wp2
    go_ret
    exact ⟨by simp [chLetter, h1, h2], rfl⟩

set_option maxHeartbeats 400000 in
theorem isDigit_any (c : Int) (w : World) :
    Calls Tryd.prog 47 #[.int .i32 c] w fun e w' => e = .returned (.bool (chDigit c)) ∧ w = w' := by
  by_cases h1 : 48 ≤ c <;> by_cases h2 : c ≤ 57 <;>
  · go_enter Tryd.func47, Tryd.ntmps47
    go_wp2
    go_ret
    exact ⟨by simp [chDigit, h1, h2], rfl⟩

set_option maxHeartbeats 400000 in
theorem anything_any (c : Int) (w : World) :
    Calls Tryd.prog 32 #[.int .i32 c] w fun e w' => e = .returned (.bool true) ∧ w = w' := by
  go_enter Tryd.func32, Tryd.ntmps32
  go_wp2
  go_ret
  exact ⟨rfl, rfl⟩

set_option maxHeartbeats 400000 in
theorem only1_any (c x : Int) (b : Nat) (w : World) (hc : w.cell? ⟨b, 0, none⟩ = some (.int .i32 x)) :
    Calls Tryd.prog 56 #[.int .i32 c, .pointer (some ⟨b, 0, none⟩)] w fun e w' => e = .returned (.bool (c == x)) ∧ w = w' := by
  go_enter Tryd.func56, Tryd.ntmps56
  go_wp2
  go_ret
  exact ⟨rfl, rfl⟩

set_option maxHeartbeats 400000 in
theorem only_any (x : Int) (w : World) :
    Calls Tryd.prog 43 #[.int .i32 x] w fun e w' => e = .returned (.func (.func 56) #[] #[.pointer (some ⟨w.heap.size, 0, none⟩)]) ∧ w.alloc (.cells #[.int .i32 x] 21) = w' := by
  go_enter Tryd.func43, Tryd.ntmps43
  go_wp2
  go_ret
  exact ⟨rfl, rfl⟩

set_option maxHeartbeats 400000 in
theorem reader_any (s : ByteArray) (w : World) :
    Calls Tryd.prog 29 #[.string s] w fun e w' => e = .returned (.func (.func 41) #[] #[.pointer (some ⟨w.heap.size, 0, none⟩)]) ∧ w.alloc (.cells #[.string s] 9) = w' := by
  go_enter Tryd.func29, Tryd.ntmps29
  go_wp2
  go_ret
  exact ⟨rfl, rfl⟩

set_option maxHeartbeats 400000 in
theorem isPart_any (c : Int) (w : World) :
    Calls Tryd.prog 57 #[.int .i32 c] w fun e w' => e = .returned (.bool (chPart c)) ∧ w = w' := by
  cases h1 : chLetter c <;> cases h2 : chDigit c <;> by_cases h3 : c = 95 <;>
  · go_enter Tryd.func57, Tryd.ntmps57
    go_wp2_with (first | (go_at_call 42; refine (isLetter_any _ _).mono ?_; rintro e w' ⟨rfl, rfl⟩) | (go_at_call 47; refine (isDigit_any _ _).mono ?_; rintro e w' ⟨rfl, rfl⟩))
    go_ret
    exact ⟨by simp [chPart, h1, h2, h3], rfl⟩

end Go.Proofs.YtjkhjflemcljdaaDoor
