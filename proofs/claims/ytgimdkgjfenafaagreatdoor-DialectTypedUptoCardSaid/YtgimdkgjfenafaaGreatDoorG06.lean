import Derived.Test.YtgimdkgjfenafaaGreatDoorProg
import Derived.WalkKit
namespace Go.Proofs.YtgimdkgjfenafaaGreatDoor
open Go.RowKit
def sw (B : Nat) (n : Int) : Int := (n + 2 ^ (B - 1)) % 2 ^ B - 2 ^ (B - 1)
theorem pow_full {B j : Nat} (h : B + j = 64) : (2 : Int) ^ B * 2 ^ j = 18446744073709551616 := by
 rw [← Int.pow_add, h]; decide
theorem pow_half {B j : Nat} (h : B + j = 64) (h0 : 0 < B) : (2 : Int) ^ (B - 1) * 2 ^ j = 9223372036854775808 := by
 rw [← Int.pow_add, show B - 1 + j = 63 from by omega]; decide
theorem pow_pos (j : Nat) : (0 : Int) < 2 ^ j := Int.pow_pos (by decide)
theorem pow_two {B : Nat} (h0 : 0 < B) : (2 : Int) ^ B = 2 ^ (B - 1) + 2 ^ (B - 1) := by
 obtain ⟨C, rfl⟩ : ∃ C, B = C + 1 := ⟨B - 1, by omega⟩
 rw [Int.pow_succ]; simp; omega
theorem emod_mul (a b : Int) {c : Int} (h : 0 < c) : (a * c) % (b * c) = (a % b) * c := by
 rw [Int.mul_comm a, Int.mul_comm b, Int.mul_emod_mul_of_pos _ _ h, Int.mul_comm]
theorem wrap_shift {B j : Nat} (h : B + j = 64) (h0 : 0 < B) (n : Int) : wrap64 (n * 2 ^ j) / 2 ^ j = sw B n := by
 unfold wrap64 sw
 rw [← pow_full h, ← pow_half h h0, ← Int.add_mul, emod_mul _ _ (pow_pos j), ← Int.sub_mul, Int.mul_ediv_cancel _ (Int.ne_of_gt (pow_pos j))]
theorem dvd_full {B : Nat} (h : B ≤ 64) : (2 : Int) ^ B ∣ 18446744073709551616 := ⟨2 ^ (64 - B), (pow_full (j := 64 - B) (by omega)).symm⟩
theorem uns_shift {B j : Nat} (h : B + j = 64) (n : Int) : IntKind.u64.wrap (IntKind.u64.wrap n * 2 ^ j) / 2 ^ j = n % 2 ^ B := by
 rw [IntKind.wrap_u64, IntKind.wrap_u64]
 have e : n % 18446744073709551616 * 2 ^ j % 18446744073709551616 = n % 18446744073709551616 % 2 ^ B * 2 ^ j := by
  have g := emod_mul (n % 18446744073709551616) (2 ^ B) (pow_pos j)
  rwa [pow_full h] at g
 rw [e, Int.mul_ediv_cancel _ (Int.ne_of_gt (pow_pos j)), Int.emod_emod_of_dvd _ (dvd_full (by omega))]
theorem low_ok : ∀ B : Fin 64, wrap64 (-2 ^ B.val) = -2 ^ B.val := by decide +kernel
theorem high_ok : ∀ B : Fin 64, bits BinOp.xor IntKind.i64 (-1) (wrap64 (-2 ^ B.val)) = 2 ^ B.val - 1 := by decide +kernel
theorem sw_range {B : Nat} (h0 : 0 < B) (n : Int) : -2 ^ (B - 1) ≤ sw B n ∧ sw B n ≤ 2 ^ (B - 1) - 1 := by
 have a := Int.emod_nonneg (n + 2 ^ (B - 1)) (Int.ne_of_gt (pow_pos B))
 have b := Int.emod_lt_of_pos (n + 2 ^ (B - 1)) (pow_pos B)
 have c := pow_two h0
 unfold sw
 omega
theorem sw_id {B : Nat} (h0 : 0 < B) {n : Int} (h1 : -2 ^ (B - 1) ≤ n) (h2 : n ≤ 2 ^ (B - 1) - 1) : sw B n = n := by
 have c := pow_two h0
 unfold sw
 rw [Int.emod_eq_of_lt (by omega) (by omega)]
 omega
theorem sw_sw {B : Nat} (h0 : 0 < B) (n : Int) : sw B (sw B n) = sw B n := sw_id h0 (sw_range h0 n).1 (sw_range h0 n).2
theorem sw_mod {B : Nat} (n : Int) : sw B n % 2 ^ B = n % 2 ^ B := by
 unfold sw
 rw [Int.emod_sub_emod]
 congr 1
 omega
theorem sw_add {B : Nat} (n k : Int) : sw B (n + k * 2 ^ B) = sw B n := by
 unfold sw
 rw [show n + k * 2 ^ B + 2 ^ (B - 1) = n + 2 ^ (B - 1) + k * 2 ^ B from by omega, Int.add_mul_emod_self_right]
theorem sw_wrap {B : Nat} (h : B ≤ 64) (n : Int) : sw B (wrap64 n) = sw B n := by
 have e : wrap64 n = n + -((n + 9223372036854775808) / 18446744073709551616 * 2 ^ (64 - B)) * 2 ^ B := by
  have p := pow_full (B := B) (j := 64 - B) (by omega)
  rw [Int.neg_mul, Int.mul_assoc, Int.mul_comm (2 ^ (64 - B)), p]
  unfold wrap64
  omega
 rw [e, sw_add]
end Go.Proofs.YtgimdkgjfenafaaGreatDoor
