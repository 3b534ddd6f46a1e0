import Derived.Test.YtgimdkgjfenafaaGreatDoorCG10
import Derived.Test.YtgimdkgjfenafaaGreatDoorCG14
namespace Go.Proofs.YtgimdkgjfenafaaGreatDoor
open Go.RowKit
inductive Cls where
 | int | num | mem | arr | any
inductive Rule where
 | bad
 | fixed (t : ByteArray)
 | bind (v : UInt8) (c : Cls)
 | same (v : UInt8)
 | elem (v : UInt8)
 | turn (v : UInt8)
 | index (v : UInt8)
 | anys
 | nums
def isL (c : UInt8) : Bool := decide (97 ≤ c.toNat) && decide (c.toNat ≤ 122)
def letterL : List UInt8 → Bool
 | [c] => isL c
 | _ => false
def Cls.word : Cls → List UInt8
 | .int => [105, 110, 116]
 | .num => [110, 117, 109]
 | .mem => [109, 101, 109]
 | .arr => [97, 114, 114]
 | .any => [97, 110, 121]
def clsOf (l : List UInt8) : Option Cls :=
 if l = [105, 110, 116] then some .int else if l = [110, 117, 109] then some .num else if l = [109, 101, 109] then some .mem else if l = [97, 114, 114] then some .arr else if l = [97, 110, 121] then some .any else none
def ruleOf (s : ByteArray) : Rule :=
 if (readR s.data.toList).isSome then .fixed s
 else if s.data.toList = [97, 110, 121, 42] then .anys
 else if s.data.toList = [110, 117, 109, 42] then .nums
 else match s.data.toList with
  | [v] => if isL v then .same v else .bad
  | [101, 108, 101, 109, 32, v] => if isL v then .elem v else .bad
  | [116, 117, 114, 110, 32, v] => if isL v then .turn v else .bad
  | [105, 110, 100, 101, 120, 94, v] => if isL v then .index v else .bad
  | [v, 58, a, b, c] => if isL v then (match clsOf [a, b, c] with | some k => .bind v k | none => .bad) else .bad
  | _ => .bad
def Rule.sortR : Rule → Int
 | .bad => 0 | .fixed _ => 1 | .bind _ _ => 2 | .same _ => 3 | .elem _ => 4 | .turn _ => 5 | .index _ => 6 | .anys => 7 | .nums => 8
def Rule.v : Rule → UInt8
 | .bind v _ => v | .same v => v | .elem v => v | .turn v => v | .index v => v | _ => 0
def Rule.whatR : Rule → ByteArray
 | .fixed t => t | .bind _ c => ⟨c.word.toArray⟩ | _ => ⟨#[]⟩
theorem list_one {s : ByteArray} (h : s.size = 1) : s.data.toList = [s[0]'(by omega)] := by
 have := head_at s (by omega : 0 < s.size)
 cases hl : s.data.toList with
 | nil => rw [size_eq, hl] at h; cases h
 | cons a t =>
  rw [hl] at this
  have ht : t = [] := by rw [size_eq, hl] at h; exact List.eq_nil_of_length_eq_zero (by simpa using h)
  rw [ht, Option.some.inj this]
set_option maxHeartbeats 1000000 in
theorem letter_any (s : ByteArray) (hs : s.size ≤ 9223372036854775807) (w : World) : Calls Tryz.prog 87 #[.string s] w fun e w' => e = .returned (.bool (letterL s.data.toList)) ∧ w = w' := by
 have hszi : (s.size : Int) ≤ 9223372036854775807 := by omega
 by_cases h1 : s.size = 1
 ·have hix := fun w => ix_at' (s := s) (m := 0) (z := 0) rfl (by omega : 0 < s.size) w
  have hl := list_one h1
  have hc := (s[0]'(by omega)).toNat_lt
  generalize s[0]'(by omega) = c at hix hl hc
  have HL := Lib.hid hl
  have h1i : (s.size : Int) = 1 := by omega
  have h1b : ((s.size : Int) == 1) = true := beq_iff_eq.2 h1i
  clear hl h1
  by_cases ha : 97 ≤ c.toNat
  ·have hai : 97 ≤ (c.toNat : Int) := by omega
   by_cases hz : c.toNat ≤ 122
   ·have hzi : (c.toNat : Int) ≤ 122 := by omega
    have HR := Lib.hid (show letterL s.data.toList = true by rw [HL.out]; show isL c = true; unfold isL; rw [decide_eq_true ha, decide_eq_true hz]; rfl)
    clear ha hz h1i
    go_enter Tryz.func87, Tryz.ntmps87
    go_wp2_with fail
    go_ret
    exact ⟨by rw [HR.out]; rfl, rfl⟩
   ·have hzi : ¬ (c.toNat : Int) ≤ 122 := by omega
    have HR := Lib.hid (show letterL s.data.toList = false by rw [HL.out]; show isL c = false; unfold isL; rw [decide_eq_false hz, Bool.and_false])
    clear ha hz h1i
    go_enter Tryz.func87, Tryz.ntmps87
    go_wp2_with fail
    go_ret
    exact ⟨by rw [HR.out]; rfl, rfl⟩
  ·have hai : ¬ 97 ≤ (c.toNat : Int) := by omega
   have HR := Lib.hid (show letterL s.data.toList = false by rw [HL.out]; show isL c = false; unfold isL; rw [decide_eq_false ha]; rfl)
   clear ha h1i
   go_enter Tryz.func87, Tryz.ntmps87
   go_wp2_with fail
   go_ret
   exact ⟨by rw [HR.out]; rfl, rfl⟩
 ·have h1i : ¬ (s.size : Int) = 1 := by omega
  have h1b : ((s.size : Int) == 1) = false := beq_eq_false_iff_ne.2 h1i
  have HR := Lib.hid (show letterL s.data.toList = false by
   rw [size_eq] at h1
   match hl : s.data.toList with
   | [] => rfl
   | [c] => rw [hl] at h1; exact absurd rfl h1
   | a :: b :: r => rfl)
  clear h1
  go_enter Tryz.func87, Tryz.ntmps87
  go_wp2_with fail
  go_ret
  exact ⟨by rw [HR.out]; rfl, rfl⟩
theorem rruleVar {w : World} {b : Nat} {v0 v1 v2 : Value} (h : w.heap[b]? = some (.cells #[v0, v1, v2] 119 (0, 0))) :
  (loadVar 119 ⟨b, 0, none⟩).run Tryz.prog w = .ok (.agg #[v0, v1, v2]) w :=
 run_loadVar_row w b _ _ _ _ _ h Tryz.underlying119 rfl (by kernel_rfl)
end Go.Proofs.YtgimdkgjfenafaaGreatDoor
