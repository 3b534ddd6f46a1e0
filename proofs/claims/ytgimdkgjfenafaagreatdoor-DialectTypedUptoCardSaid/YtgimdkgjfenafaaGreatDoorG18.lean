import Derived.Test.YtgimdkgjfenafaaGreatDoorProg
import Derived.WalkKit
import Derived.WalkSpells
import Derived.WalkLawsBesides
import Derived.Lib.Hide
import Derived.Lib.ItoaNum
namespace Go.Proofs.YtgimdkgjfenafaaGreatDoor
open Go.RowKit
theorem encode_fin : ∀ i : Fin 10, Utf8.encode (48 + (i.val : Int)) = ⟨#[UInt8.ofNat (48 + i.val)]⟩ := by decide +kernel
theorem encode_digit {n : Nat} (h : n < 10) : Utf8.encode (48 + (n : Int)) = ⟨#[UInt8.ofNat (48 + n)]⟩ := encode_fin ⟨n, h⟩
theorem natural_one {n : Nat} {w : World} (h : n < 10) : Ending.returned (.string (Utf8.encode (48 + (n : Int)))) = .returned (.string ⟨(Lib.decDigits n).toArray⟩) ∧ w = w := by
 rw [Lib.decDigits_one h, encode_digit h]
 simp
theorem natural_more {n : Nat} {w : World} (h : ¬ n < 10) : Ending.returned (.string (⟨(Lib.decDigits (n / 10)).toArray⟩ ++ Utf8.encode (48 + (n : Int) % 10))) = .returned (.string ⟨(Lib.decDigits n).toArray⟩) ∧ w = w := by
 rw [show Lib.decDigits n = Lib.decDigits (n / 10) ++ [UInt8.ofNat (48 + n % 10)] by rw [Lib.decDigits, dif_neg h]]
 refine ⟨?_, rfl⟩
 rw [show (n : Int) % 10 = ((n % 10 : Nat) : Int) by omega, encode_digit (n := n % 10) (by omega)]
 congr 2
theorem nDig_le : ∀ (k u : Nat), u < 10 ^ (k + 1) → Lib.nDigits u ≤ k + 1
 | 0, u, h => by rw [Lib.nDigits_small (by simpa using h)]; omega
 | k + 1, u, h => by
  by_cases h1 : u < 10
  ·rw [Lib.nDigits_small h1]; omega
  ·rw [Lib.nDigits_big h1]
   have := nDig_le k (u / 10) (by rw [Nat.pow_succ] at h; omega)
   omega
theorem decDigits_short {u : Nat} (h : u < 2 ^ 64) : (Lib.decDigits u).length ≤ 20 := by
 rw [Lib.decDigits_length]
 exact nDig_le 19 u (by omega)
theorem add_strings (a b : ByteArray) (ha : a.size ≤ 4611686018427387904) (hb : b.size ≤ 4611686018427387903) (w : World) : (Op.stringOp .add a b).run Tryz.prog w = .ok (.string (a ++ b)) w :=
 run_string_add_sum w a b (by omega)
set_option maxRecDepth 100000 in
set_option maxHeartbeats 400000 in
theorem natural_any (n : Nat) : n < 2 ^ 64 → ∀ (w : World),
  Calls Tryz.prog 163 #[.int .u64 n] w fun e w' => e = .returned (.string ⟨(Lib.decDigits n).toArray⟩) ∧ w = w' := by
 induction n using Nat.strongRecOn with
 | _ n ih =>
  intro hn w
  replace ih := Lib.hid ih
  by_cases h : n < 10
  ·go_enter Tryz.func163, Tryz.ntmps163
   go_wp2
   go_ret
   exact natural_one h
  ·have hadd := add_strings ⟨(Lib.decDigits (n / 10)).toArray⟩ (Utf8.encode (48 + (n : Int) % 10)) (by have := decDigits_short (u := n / 10) (by omega); simp [ByteArray.size]; omega)
    (by have := encode_size_le (48 + (n : Int) % 10); omega)
   go_enter Tryz.func163, Tryz.ntmps163
   go_wp2_with fail
   refine (ih.out (n / 10) (by omega) (by omega) _).mono ?_
   rintro e w1 ⟨rfl, rfl⟩
   go_wp2_with fail
   go_ret
   exact natural_more h
set_option maxHeartbeats 400000 in
theorem Digits_any (n : Nat) (hn : n < 2 ^ 63) (w : World) :
  Calls Tryz.prog 141 #[.int .i64 n] w fun e w' => e = .returned (.string ⟨(Lib.decDigits n).toArray⟩) ∧ w = w' := by
 go_enter Tryz.func141, Tryz.ntmps141
 go_wp2_with fail
 refine (natural_any n (by omega) _).mono ?_
 rintro e w1 ⟨rfl, rfl⟩
 go_wp2_with fail
 go_ret
 exact ⟨rfl, rfl⟩
end Go.Proofs.YtgimdkgjfenafaaGreatDoor
