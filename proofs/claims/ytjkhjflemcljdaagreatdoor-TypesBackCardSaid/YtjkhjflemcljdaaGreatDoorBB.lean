/-
  The reference's 'Shaped', 'Cells' and 'Make', and the law's 'same', by contracts.
-/
import Derived.Test.YtjkhjflemcljdaaGreatDoorBA
import Derived.Test.YtjkhjflemcljdaaGreatDoorP
import Derived.Test.YtjkhjflemcljdaaGreatDoorS
import Derived.BigQuiet
namespace Go.Proofs.YtjkhjflemcljdaaGreatDoor
open Go.RowKit

set_option maxHeartbeats 400000 in
theorem Shaped_ref (k b : Int) (ao : Option Addr) (n c : Nat) (el : ByteArray) (w : World) :
    Calls Tryz.prog 21 #[.agg #[.int .i64 k, .int .i64 b, .slice ao n c, .string el]] w
      fun e w' => e = .returned (.bool (k == 2 || k == 3)) ∧ Below w.heap.size w w' := by
  cases h2 : (k == 2) <;>
  · go_enter Tryz.func21, Tryz.ntmps21
    go_wp2
    go_ret
    exact ⟨rfl, (Below.refl _ _).alloc (Nat.le_refl _) _⟩

/-- The product of at most three extents. -/
theorem ran_prod3 {es : List Int} (h3 : es.length ≤ 3) (hr : ∀ x ∈ es, 0 ≤ x ∧ x ≤ 1000) : 0 ≤ prodL es ∧ prodL es ≤ 1000000000 := by
  by_cases h2 : es.length ≤ 2
  · have := ran_prod h2 hr
    omega
  · obtain ⟨a, b, c, rfl⟩ : ∃ a b c, es = [a, b, c] := by
      match es, h2, h3 with
      | [a, b, c], _, _ => exact ⟨a, b, c, rfl⟩
      | [], h, _ => exact absurd (by simp) h
      | [_], h, _ => exact absurd (by simp) h
      | [_, _], h, _ => exact absurd (by simp) h
    have h1 := ran_prod (es := [a, b]) (by simp) (fun x hx => hr x (by simp at hx ⊢; omega))
    have hc := hr c (by simp)
    rw [show [a, b, c] = [a, b] ++ [c] from rfl, prodL_snoc]
    have := Int.mul_le_mul h1.2 hc.2 hc.1 (by omega)
    exact ⟨Int.mul_nonneg h1.1 hc.1, by omega⟩
theorem take_at {zs : List Int} {m : Nat} (hm : m < zs.length) : zs.take (m + 1) = zs.take m ++ [zs[m]?.getD 0] := by
  rw [List.take_add_one, List.getElem?_eq_getElem hm]
  rfl
theorem ran_at {zs : List Int} {m : Nat} (hm : m < zs.length) (hr : ∀ x ∈ zs, 0 ≤ x ∧ x ≤ 1000) : 0 ≤ zs[m]?.getD 0 ∧ zs[m]?.getD 0 ≤ 1000 := by
  rw [List.getElem?_eq_getElem hm]
  exact hr _ (List.getElem_mem hm)
theorem prod_step {zs : List Int} {m : Nat} (h3 : zs.length ≤ 3) (hr : ∀ x ∈ zs, 0 ≤ x ∧ x ≤ 1000) (hm : m < zs.length) {z : Int} (hz : z = zs[m]?.getD 0) :
    wrap64 (prodL (zs.take m) * z) = prodL (zs.take (m + 1)) := by
  subst hz
  rw [take_at hm, prodL_snoc]
  have := ran_prod3 (es := zs.take (m + 1)) (by simp; omega) (fun x hx => hr x (List.mem_of_mem_take hx))
  rw [take_at hm, prodL_snoc] at this
  exact IntWalk.wrap64_in _ ⟨by omega, by omega⟩

set_option maxHeartbeats 400000 in
theorem CellsT_ref (k b : Int) (ao : Option Addr) (zs : List Int) (c : Nat) (el : ByteArray) (h3 : zs.length ≤ 3) (hr : ∀ x ∈ zs, 0 ≤ x ∧ x ≤ 1000) (w : World) (hz : IntsAt w ao zs) :
    Calls Tryz.prog 24 #[.agg #[.int .i64 k, .int .i64 b, .slice ao zs.length c, .string el]] w
      fun e w' => e = .returned (.int .i64 (prodL zs)) ∧ Below w.heap.size w w' := by
  obtain ⟨w1, hw1⟩ : ∃ w1, w1 = w.alloc (.cells #[.int .i64 k, .int .i64 b, .slice ao zs.length c, .string el] 24) := ⟨_, rfl⟩
  have hb1 : Below w.heap.size w w1 := by rw [hw1]; exact (Below.refl _ _).alloc (Nat.le_refl _) _
  have HB1 := Lib.hid hb1
  have Hz := Lib.hid (hz.below hb1)
  have HR := Lib.hid hr
  have T1 := heap_alloc_new w (.cells #[.int .i64 k, .int .i64 b, .slice ao zs.length c, .string el] 24)
  rw [← hw1] at T1
  have HT1 := Lib.hid T1
  clear hz hr hb1 T1
  go_enter Tryz.func24, Tryz.ntmps24
  go_wp2_with fail
  rw [← hw1]
  clear hw1
  obtain ⟨c0, c1, c2, c3, cf⟩ := cells4 HT1.out
  go_loop [3, 4] (fun p i => ∃ m : Nat, m ≤ zs.length ∧ i = .int .i64 m ∧ p = .int .i64 (prodL (zs.take m))) (fun _ i => zs.length - (intOf i).toNat)
  case atStart => exact ⟨0, Nat.zero_le _, rfl, rfl⟩
  case round =>
    obtain ⟨m, hm, rfl, rfl⟩ := hrel
    by_cases hlt : m < zs.length
    · rcases Hz.out with h0 | ⟨a, rfl, hc⟩
      · rw [h0] at hlt; exact absurd hlt (Nat.not_lt_zero _)
      have hcm := hc m hlt
      have HC := Lib.hid hc
      clear hc
      obtain ⟨z, hz⟩ : ∃ z, z = zs[m]?.getD 0 := ⟨_, rfl⟩
      rw [← hz] at hcm
      have HS := Lib.hid (prod_step h3 HR.out hlt hz)
      clear hz
      go_wp2_with fail
      go_round
      case rel => exact ⟨m + 1, by omega, by go_num, by rw [← HS.out]⟩
      case measure => simp [intOf]; omega
    · obtain rfl : m = zs.length := by omega
      go_wp2_with fail
      go_ret
      exact ⟨rfl, HB1.out⟩

theorem drawn_same {B : Nat} {a w : World} (h : Below B a w) (n : Nat) : Below B a (w.drewN n) := ⟨h.os, h.tape, h.output, h.size, h.block⟩
set_option maxHeartbeats 400000 in
/-- Two lists of the same numbers are the same. -/
theorem same_yes (a1 a2 : Option Addr) (zs : List Int) (c1 c2 : Nat) (hn : zs.length ≤ 1000000) (w : World) (h1 : IntsAt w a1 zs) (h2 : IntsAt w a2 zs) :
    Calls Tryz.prog 23 #[.slice a1 zs.length c1, .slice a2 zs.length c2] w fun e w' => e = .returned (.bool true) ∧ Below w.heap.size w w' := by
  have H1 := Lib.hid h1
  have H2 := Lib.hid h2
  clear h1 h2
  go_enter Tryz.func23, Tryz.ntmps23
  go_wp2_with fail
  go_loopw [5] (fun i wr => ∃ m : Nat, m ≤ zs.length ∧ i = .int .i64 m ∧ Hid (Below w.heap.size w wr)) (fun i _ => zs.length - (intOf i).toNat)
  case atStart => exact ⟨0, Nat.zero_le _, rfl, Below.refl _ _⟩
  case round =>
    obtain ⟨m, hm, rfl, HB⟩ := hrel
    by_cases hlt : m < zs.length
    · rcases H1.out.below HB.out with h0 | ⟨a, rfl, hc⟩
      · rw [h0] at hlt; exact absurd hlt (Nat.not_lt_zero _)
      rcases H2.out.below HB.out with h0 | ⟨a', rfl, hc'⟩
      · rw [h0] at hlt; exact absurd hlt (Nat.not_lt_zero _)
      have hcm := hc m hlt
      have hcm' := hc' m hlt
      clear hc hc'
      obtain ⟨z, hz⟩ : ∃ z, z = zs[m]?.getD 0 := ⟨_, rfl⟩
      rw [← hz] at hcm hcm'
      clear hz
      go_wp2_with fail
      go_quiet (fail)
      go_wp2_with fail
      go_roundw
      case rel => exact ⟨m + 1, by omega, by go_num, drawn_same HB.out _⟩
      case measure => simp [intOf]; omega
    · obtain rfl : m = zs.length := by omega
      go_wp2_with fail
      go_ret
      exact ⟨rfl, HB.out⟩
end Go.Proofs.YtjkhjflemcljdaaGreatDoor
