import Derived.Test.YtgimdkgjfenafaaGreatDoorProg
import Derived.WalkKit
import Derived.WalkSpells
import Derived.WalkLawsBesides
import Derived.Laws.EntriesVeiled
import Derived.Lib.Hide
namespace Go.Proofs.YtgimdkgjfenafaaGreatDoor
open Go.RowKit
def chLetter (c : Int) : Bool := decide (97 ≤ c) && decide (c ≤ 122)
def chDigit (c : Int) : Bool := decide (48 ≤ c) && decide (c ≤ 57)
def chPart (c : Int) : Bool := chLetter c || chDigit c || decide (c = 95)
set_option maxHeartbeats 400000 in
theorem isLetter_any (c : Int) (w : World) :
  Calls Tryz.prog 185 #[.int .i32 c] w fun e w' => e = .returned (.bool (chLetter c)) ∧ w = w' := by
 by_cases h1 : 97 ≤ c <;> by_cases h2 : c ≤ 122 <;>
 ·go_enter Tryz.func185, Tryz.ntmps185
  go_wp2
  go_ret
  exact ⟨by simp [chLetter, h1, h2], rfl⟩
set_option maxHeartbeats 400000 in
theorem isDigit_any (c : Int) (w : World) :
  Calls Tryz.prog 190 #[.int .i32 c] w fun e w' => e = .returned (.bool (chDigit c)) ∧ w = w' := by
 by_cases h1 : 48 ≤ c <;> by_cases h2 : c ≤ 57 <;>
 ·go_enter Tryz.func190, Tryz.ntmps190
  go_wp2
  go_ret
  exact ⟨by simp [chDigit, h1, h2], rfl⟩
set_option maxHeartbeats 400000 in
theorem anything_any (c : Int) (w : World) :
  Calls Tryz.prog 174 #[.int .i32 c] w fun e w' => e = .returned (.bool true) ∧ w = w' := by
 go_enter Tryz.func174, Tryz.ntmps174
 go_wp2
 go_ret
 exact ⟨rfl, rfl⟩
set_option maxHeartbeats 400000 in
theorem only1_any (c x : Int) (b : Nat) (w : World) (hc : w.cell? ⟨b, 0, none⟩ = some (.int .i32 x)) :
  Calls Tryz.prog 196 #[.int .i32 c, .pointer (some ⟨b, 0, none⟩)] w fun e w' => e = .returned (.bool (c == x)) ∧ w = w' := by
 go_enter Tryz.func196, Tryz.ntmps196
 go_wp2
 go_ret
 exact ⟨rfl, rfl⟩
set_option maxHeartbeats 400000 in
theorem only_any (x : Int) (w : World) :
  Calls Tryz.prog 186 #[.int .i32 x] w fun e w' => e = .returned (.func (.func 196) #[] #[.pointer (some ⟨w.heap.size, 0, none⟩)]) ∧ w.alloc (.cells #[.int .i32 x] 21) = w' := by
 go_enter Tryz.func186, Tryz.ntmps186
 go_wp2
 go_ret
 exact ⟨rfl, rfl⟩
set_option maxHeartbeats 400000 in
theorem reader_any (s : ByteArray) (w : World) :
  Calls Tryz.prog 171 #[.string s] w fun e w' => e = .returned (.func (.func 184) #[] #[.pointer (some ⟨w.heap.size, 0, none⟩)]) ∧ w.alloc (.cells #[.string s] 9) = w' := by
 go_enter Tryz.func171, Tryz.ntmps171
 go_wp2
 go_ret
 exact ⟨rfl, rfl⟩
set_option maxHeartbeats 400000 in
theorem isPart_any (c : Int) (w : World) :
  Calls Tryz.prog 197 #[.int .i32 c] w fun e w' => e = .returned (.bool (chPart c)) ∧ w = w' := by
 cases h1 : chLetter c <;> cases h2 : chDigit c <;> by_cases h3 : c = 95 <;>
 ·go_enter Tryz.func197, Tryz.ntmps197
  go_wp2_with (first | (go_at_call 185; refine (isLetter_any _ _).mono ?_; rintro e w' ⟨rfl, rfl⟩) | (go_at_call 190; refine (isDigit_any _ _).mono ?_; rintro e w' ⟨rfl, rfl⟩))
  go_ret
  exact ⟨by simp [chPart, h1, h2, h3], rfl⟩
end Go.Proofs.YtgimdkgjfenafaaGreatDoor
