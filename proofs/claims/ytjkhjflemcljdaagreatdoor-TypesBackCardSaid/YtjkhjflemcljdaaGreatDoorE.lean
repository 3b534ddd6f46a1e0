/-
  The methods of a type that was read that only compute: 'isNumber', 'isShaped', 'cells' (and 'product' under it).
-/
import Derived.Test.YtjkhjflemcljdaaGreatDoorD
namespace Go.Proofs.YtjkhjflemcljdaaGreatDoor
open Go.RowKit

set_option maxHeartbeats 400000 in
theorem isNumber_any (k b r e0 e1 e2 : Int) (el : ByteArray) (w : World) :
    Calls Tryz.prog 44 #[.agg #[.int .i64 k, .int .i64 b, .int .i64 r, .int .i64 e0, .int .i64 e1, .int .i64 e2, .string el]] w
      fun e w' => e = .returned (.bool (decide (0 < b))) ∧ w.alloc (.cells #[.int .i64 k, .int .i64 b, .int .i64 r, .int .i64 e0, .int .i64 e1, .int .i64 e2, .string el] 76) = w' := by
  go_enter Tryz.func44, Tryz.ntmps44
  go_wp2
  go_ret
  exact ⟨rfl, rfl⟩

set_option maxHeartbeats 400000 in
theorem isShaped_any (k b r e0 e1 e2 : Int) (el : ByteArray) (w : World) :
    Calls Tryz.prog 51 #[.agg #[.int .i64 k, .int .i64 b, .int .i64 r, .int .i64 e0, .int .i64 e1, .int .i64 e2, .string el]] w
      fun e w' => e = .returned (.bool (k == 2 || k == 3)) ∧ w.alloc (.cells #[.int .i64 k, .int .i64 b, .int .i64 r, .int .i64 e0, .int .i64 e1, .int .i64 e2, .string el] 76) = w' := by
  cases h2 : (k == 2) <;>
  · go_enter Tryz.func51, Tryz.ntmps51
    go_wp2
    go_ret
    exact ⟨rfl, rfl⟩

/-- The product of the first n of three numbers. -/
def prodN (n : Nat) (e0 e1 e2 : Int) : Int := match n with | 0 => 1 | 1 => e0 | 2 => e0 * e1 | _ => e0 * e1 * e2

theorem prod_bound {e0 e1 e2 : Int} (h0 : 0 ≤ e0 ∧ e0 ≤ 1000) (h1 : 0 ≤ e1 ∧ e1 ≤ 1000) (h2 : 0 ≤ e2 ∧ e2 ≤ 1000) :
    (0 ≤ e0 * e1 ∧ e0 * e1 ≤ 1000000) ∧ (0 ≤ e0 * e1 * e2 ∧ e0 * e1 * e2 ≤ 1000000000) := by
  have a : 0 ≤ e0 * e1 := Int.mul_nonneg h0.1 h1.1
  have b : e0 * e1 ≤ 1000 * 1000 := Int.mul_le_mul h0.2 h1.2 h1.1 (by omega)
  have c : 0 ≤ e0 * e1 * e2 := Int.mul_nonneg a h2.1
  have d : e0 * e1 * e2 ≤ 1000000 * 1000 := Int.mul_le_mul (by omega) h2.2 h2.1 (by omega)
  omega

set_option maxHeartbeats 400000 in
theorem product_any (b n : Nat) (hn : n ≤ 3) (e0 e1 e2 : Int) (h0 : 0 ≤ e0 ∧ e0 ≤ 1000) (h1 : 0 ≤ e1 ∧ e1 ≤ 1000) (h2 : 0 ≤ e2 ∧ e2 ≤ 1000) (w : World)
    (c3 : w.cell? ⟨b, 3, none⟩ = some (.int .i64 e0)) (c4 : w.cell? ⟨b, 4, none⟩ = some (.int .i64 e1)) (c5 : w.cell? ⟨b, 5, none⟩ = some (.int .i64 e2)) :
    Calls Tryz.prog 61 #[.slice (some ⟨b, 3, none⟩) n 3] w fun e w' => e = .returned (.int .i64 (prodN n e0 e1 e2)) ∧ w = w' := by
  obtain ⟨⟨p1, p2⟩, ⟨p3, p4⟩⟩ := prod_bound h0 h1 h2
  obtain ⟨a0, b0⟩ := h0
  obtain ⟨a1, b1⟩ := h1
  obtain ⟨a2, b2⟩ := h2
  go_enter Tryz.func61, Tryz.ntmps61
  go_wp2
  go_loop [3, 8] (fun p i => ∃ k : Nat, k ≤ n ∧ i = .int .i64 k ∧ p = .int .i64 (prodN k e0 e1 e2)) (fun _ i => n - (intOf i).toNat)
  case atStart => exact ⟨0, Nat.zero_le _, rfl, rfl⟩
  case round =>
    obtain ⟨k, hk, rfl, rfl⟩ := hrel
    by_cases hlt : k < n
    · rcases (show k = 0 ∨ k = 1 ∨ k = 2 by omega) with rfl | rfl | rfl
      all_goals
        go_wp2
        go_round
        case rel => exact ⟨_, hlt, by go_num, by simp [prodN]; exact IntWalk.wrap64_in _ ⟨by omega, by omega⟩⟩
        case measure => simp [intOf]; omega
    · obtain rfl : k = n := by omega
      go_wp2
      go_ret
      exact ⟨rfl, rfl⟩

theorem slice_ext (n : Nat) (hn : n ≤ 3) (b : Nat) (w : World) :
    (Instr.sliceAt 74 (.pointer (some ⟨b, 3, none⟩)) none (some (.int .i64 n)) none).run Tryz.prog w = .ok (.slice (some ⟨b, 3, none⟩) n 3) w := by
  rcases (show n = 0 ∨ n = 1 ∨ n = 2 ∨ n = 3 by omega) with rfl | rfl | rfl | rfl
  all_goals kernel_rfl

set_option maxHeartbeats 400000 in
set_option maxRecDepth 100000 in
theorem cells_any (k b e0 e1 e2 : Int) (n : Nat) (el : ByteArray) (hn : n ≤ 3) (h0 : 0 ≤ e0 ∧ e0 ≤ 1000) (h1 : 0 ≤ e1 ∧ e1 ≤ 1000) (h2 : 0 ≤ e2 ∧ e2 ≤ 1000) (w : World) :
    Calls Tryz.prog 48 #[.agg #[.int .i64 k, .int .i64 b, .int .i64 n, .int .i64 e0, .int .i64 e1, .int .i64 e2, .string el]] w
      fun e w' => e = .returned (.int .i64 (prodN n e0 e1 e2)) ∧ w.alloc (.cells #[.int .i64 k, .int .i64 b, .int .i64 n, .int .i64 e0, .int .i64 e1, .int .i64 e2, .string el] 76) = w' := by
  have hsl := slice_ext n hn
  go_enter Tryz.func48, Tryz.ntmps48
  go_wp2_with fail
  refine (product_any w.heap.size n hn e0 e1 e2 h0 h1 h2 _ (by simp) (by simp) (by simp)).mono ?_
  rintro e w' ⟨rfl, rfl⟩
  go_wp2_with fail
  go_ret
  exact ⟨rfl, rfl⟩
end Go.Proofs.YtjkhjflemcljdaaGreatDoor
