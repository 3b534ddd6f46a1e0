/-
  'shaped' and what is asked of memory and array types; 'Range', 'Wrap' and 'Unsigned', by contracts.
-/
import Derived.Test.YtjkhjflemcljdaaGreatDoorI
import Derived.Test.YtjkhjflemcljdaaGreatDoorM
namespace Go.Proofs.YtjkhjflemcljdaaGreatDoor
open Go.RowKit
section
variable {s el : ByteArray} {k b e0 e1 e2 : Int} {r : Nat}

set_option maxHeartbeats 400000 in
set_option maxRecDepth 100000 in
theorem shaped_no (h : NoTy s) (w : World) (hE : Env w) :
    Calls Tryz.prog 45 #[.string s] w fun e w' => e = .returned (.tuple #[.agg #[.int .i64 0, .int .i64 0, .int .i64 0, .int .i64 0, .int .i64 0, .int .i64 0, .string ⟨#[]⟩], .int .i64 10]) ∧ Below w.heap.size w w' := by
  have hE' := Lib.hid hE
  clear hE
  have HZ := Lib.hid (heap_alloc_new w (.cells #[.int .i64 0, .int .i64 0, .int .i64 0, .int .i64 0, .int .i64 0, .int .i64 0, .string ⟨#[]⟩] 76))
  have HB := Lib.hid ((Below.refl w.heap.size w).alloc (Nat.le_refl _) (.cells #[.int .i64 0, .int .i64 0, .int .i64 0, .int .i64 0, .int .i64 0, .int .i64 0, .string ⟨#[]⟩] 76))
  go_enter Tryz.func45, Tryz.ntmps45
  go_wp2_with fail
  refine (described_no s h _ (hE'.out.below HB.out)).mono ?_
  rintro e w1 ⟨rfl, hb1⟩
  have HB1 := Lib.hid (HB.out.trans (hb1.mono (by simp)))
  have Hr1 := Lib.hid ((hb1.block w.heap.size (by simp)).trans HZ.out)
  clear hb1
  have hsz1 := lt_of_block Hr1.out
  obtain ⟨c0, c1, c2, c3, c4, c5, c6, hfz⟩ := cells7 Hr1.out
  go_wp2_with fail
  refine bodyPost_ret (v := .tuple #[.agg #[.int .i64 0, .int .i64 0, .int .i64 0, .int .i64 0, .int .i64 0, .int .i64 0, .string ⟨#[]⟩], .int .i64 10]) (results_cell_tmp Tryz.results45 rfl rfl (descVar (read_back Hr1.out))) rfl ?_
  exact ⟨rfl, set7_alloc HB1.out (Nat.le_refl _) (Nat.le_refl _)⟩

set_option maxHeartbeats 400000 in
set_option maxRecDepth 100000 in
theorem shaped_arg (h : Ty s k b r e0 e1 e2 el) (hk : ¬ (k = 2 ∨ k = 3)) (w : World) (hE : Env w) :
    Calls Tryz.prog 45 #[.string s] w fun e w' => e = .returned (.tuple #[.agg #[.int .i64 0, .int .i64 0, .int .i64 0, .int .i64 0, .int .i64 0, .int .i64 0, .string ⟨#[]⟩], .int .i64 1]) ∧ Below w.heap.size w w' := by
  have hk2 : (k == 2 || k == 3) = false := by simpa using hk
  clear hk
  have hE' := Lib.hid hE
  clear hE
  have HZ := Lib.hid (heap_alloc_new w (.cells #[.int .i64 0, .int .i64 0, .int .i64 0, .int .i64 0, .int .i64 0, .int .i64 0, .string ⟨#[]⟩] 76))
  have HB := Lib.hid ((Below.refl w.heap.size w).alloc (Nat.le_refl _) (.cells #[.int .i64 0, .int .i64 0, .int .i64 0, .int .i64 0, .int .i64 0, .int .i64 0, .string ⟨#[]⟩] 76))
  go_enter Tryz.func45, Tryz.ntmps45
  go_wp2_with fail
  refine (described_yes h _ (hE'.out.below HB.out)).mono ?_
  rintro e w1 ⟨rfl, hb1⟩
  have HB1 := Lib.hid (HB.out.trans (hb1.mono (by simp)))
  have Hr1 := Lib.hid ((hb1.block w.heap.size (by simp)).trans HZ.out)
  clear hb1
  go_wp2_with fail
  refine (isShaped_any _ _ _ _ _ _ _ _).mono ?_
  rintro e w2 ⟨rfl, hw2⟩
  have HB2 : Hid (Below w.heap.size w w2) := by rw [← hw2]; exact (HB1.out.alloc HB1.out.size _).alloc (by have := HB1.out.size; simp; omega) _
  have Hr2 : Hid (w2.heap[w.heap.size]? = some (.cells #[.int .i64 0, .int .i64 0, .int .i64 0, .int .i64 0, .int .i64 0, .int .i64 0, .string ⟨#[]⟩] 76 (0, 0))) := by
    rw [← hw2]; exact (Below.heap_alloc _ _ _ (by have := lt_of_block Hr1.out; simp; omega)).trans ((Below.heap_alloc _ _ _ (lt_of_block Hr1.out)).trans Hr1.out)
  have Hd2 : Hid (w2.heap[w1.heap.size]? = some (.cells #[.int .i64 k, .int .i64 b, .int .i64 r, .int .i64 e0, .int .i64 e1, .int .i64 e2, .string el] 76 (0, 0))) := by
    rw [← hw2]; exact (Below.heap_alloc _ _ _ (by simp)).trans (heap_alloc_new _ _)
  clear hw2
  obtain ⟨c0, c1, c2, c3, c4, c5, c6, hfz⟩ := cells7 Hr2.out
  obtain ⟨d0, d1, d2, d3, d4, d5, d6, hfz2⟩ := cells7 Hd2.out
  rw [hk2]
  go_wp2_with fail
  refine bodyPost_ret (v := .tuple #[.agg #[.int .i64 0, .int .i64 0, .int .i64 0, .int .i64 0, .int .i64 0, .int .i64 0, .string ⟨#[]⟩], .int .i64 1]) (results_cell_tmp Tryz.results45 rfl rfl (descVar (set7_block Hr2.out))) rfl ?_
  exact ⟨rfl, set7_below HB2.out (Nat.le_refl _)⟩

set_option maxHeartbeats 400000 in
set_option maxRecDepth 100000 in
theorem shaped_yes (h : Ty s k b r e0 e1 e2 el) (hk : k = 2 ∨ k = 3) (w : World) (hE : Env w) :
    Calls Tryz.prog 45 #[.string s] w fun e w' => e = .returned (.tuple #[.agg #[.int .i64 k, .int .i64 b, .int .i64 r, .int .i64 e0, .int .i64 e1, .int .i64 e2, .string el], .int .i64 0]) ∧ Below w.heap.size w w' := by
  have hk2 : (k == 2 || k == 3) = true := by simpa using hk
  clear hk
  have hE' := Lib.hid hE
  clear hE
  have HZ := Lib.hid (heap_alloc_new w (.cells #[.int .i64 0, .int .i64 0, .int .i64 0, .int .i64 0, .int .i64 0, .int .i64 0, .string ⟨#[]⟩] 76))
  have HB := Lib.hid ((Below.refl w.heap.size w).alloc (Nat.le_refl _) (.cells #[.int .i64 0, .int .i64 0, .int .i64 0, .int .i64 0, .int .i64 0, .int .i64 0, .string ⟨#[]⟩] 76))
  go_enter Tryz.func45, Tryz.ntmps45
  go_wp2_with fail
  refine (described_yes h _ (hE'.out.below HB.out)).mono ?_
  rintro e w1 ⟨rfl, hb1⟩
  have HB1 := Lib.hid (HB.out.trans (hb1.mono (by simp)))
  have Hr1 := Lib.hid ((hb1.block w.heap.size (by simp)).trans HZ.out)
  clear hb1
  go_wp2_with fail
  refine (isShaped_any _ _ _ _ _ _ _ _).mono ?_
  rintro e w2 ⟨rfl, hw2⟩
  have HB2 : Hid (Below w.heap.size w w2) := by rw [← hw2]; exact (HB1.out.alloc HB1.out.size _).alloc (by have := HB1.out.size; simp; omega) _
  have Hr2 : Hid (w2.heap[w.heap.size]? = some (.cells #[.int .i64 0, .int .i64 0, .int .i64 0, .int .i64 0, .int .i64 0, .int .i64 0, .string ⟨#[]⟩] 76 (0, 0))) := by
    rw [← hw2]; exact (Below.heap_alloc _ _ _ (by have := lt_of_block Hr1.out; simp; omega)).trans ((Below.heap_alloc _ _ _ (lt_of_block Hr1.out)).trans Hr1.out)
  have Hd2 : Hid (w2.heap[w1.heap.size]? = some (.cells #[.int .i64 k, .int .i64 b, .int .i64 r, .int .i64 e0, .int .i64 e1, .int .i64 e2, .string el] 76 (0, 0))) := by
    rw [← hw2]; exact (Below.heap_alloc _ _ _ (by simp)).trans (heap_alloc_new _ _)
  clear hw2
  obtain ⟨c0, c1, c2, c3, c4, c5, c6, hfz⟩ := cells7 Hr2.out
  obtain ⟨d0, d1, d2, d3, d4, d5, d6, hfz2⟩ := cells7 Hd2.out
  rw [hk2]
  go_wp2_with fail
  refine bodyPost_ret (v := .tuple #[.agg #[.int .i64 k, .int .i64 b, .int .i64 r, .int .i64 e0, .int .i64 e1, .int .i64 e2, .string el], .int .i64 0]) (results_cell_tmp Tryz.results45 rfl rfl (descVar (set7_block Hr2.out))) rfl ?_
  exact ⟨rfl, set7_below HB2.out (Nat.le_refl _)⟩

set_option maxHeartbeats 400000 in
set_option maxRecDepth 100000 in
theorem Rank_no (h : NoTy s) (w : World) (hE : Env w) :
    Calls Tryz.prog 18 #[.string s] w fun e w' => e = .returned (.tuple #[.int .i64 0, .int .i64 10]) ∧ Below w.heap.size w w' := by
  have hE' := Lib.hid hE
  clear hE
  go_enter Tryz.func18, Tryz.ntmps18
  go_wp2_with fail
  refine (shaped_no h _ hE'.out).mono ?_
  rintro e w1 ⟨rfl, hb1⟩
  have HB1 := Lib.hid hb1
  clear hb1
  go_wp2_with fail
  go_ret2
  exact ⟨rfl, HB1.out.alloc HB1.out.size _⟩

set_option maxHeartbeats 400000 in
set_option maxRecDepth 100000 in
theorem Element_no (h : NoTy s) (w : World) (hE : Env w) :
    Calls Tryz.prog 19 #[.string s] w fun e w' => e = .returned (.tuple #[.string ⟨#[]⟩, .int .i64 10]) ∧ Below w.heap.size w w' := by
  have hE' := Lib.hid hE
  clear hE
  go_enter Tryz.func19, Tryz.ntmps19
  go_wp2_with fail
  refine (shaped_no h _ hE'.out).mono ?_
  rintro e w1 ⟨rfl, hb1⟩
  have HB1 := Lib.hid hb1
  clear hb1
  go_wp2_with fail
  go_ret2
  exact ⟨rfl, HB1.out.alloc HB1.out.size _⟩

set_option maxHeartbeats 400000 in
set_option maxRecDepth 100000 in
theorem Cells_no (h : NoTy s) (w : World) (hE : Env w) :
    Calls Tryz.prog 17 #[.string s] w fun e w' => e = .returned (.tuple #[.int .i64 0, .int .i64 10]) ∧ Below w.heap.size w w' := by
  have hE' := Lib.hid hE
  clear hE
  go_enter Tryz.func17, Tryz.ntmps17
  go_wp2_with fail
  refine (shaped_no h _ hE'.out).mono ?_
  rintro e w1 ⟨rfl, hb1⟩
  have HB1 := Lib.hid hb1
  clear hb1
  go_wp2_with fail
  go_ret2
  exact ⟨rfl, HB1.out.alloc HB1.out.size _⟩

set_option maxHeartbeats 400000 in
set_option maxRecDepth 100000 in
theorem Rank_arg (h : Ty s k b r e0 e1 e2 el) (hk : ¬ (k = 2 ∨ k = 3)) (w : World) (hE : Env w) :
    Calls Tryz.prog 18 #[.string s] w fun e w' => e = .returned (.tuple #[.int .i64 0, .int .i64 1]) ∧ Below w.heap.size w w' := by
  have hE' := Lib.hid hE
  clear hE
  go_enter Tryz.func18, Tryz.ntmps18
  go_wp2_with fail
  refine (shaped_arg h hk _ hE'.out).mono ?_
  rintro e w1 ⟨rfl, hb1⟩
  have HB1 := Lib.hid hb1
  clear hb1
  go_wp2_with fail
  go_ret2
  exact ⟨rfl, HB1.out.alloc HB1.out.size _⟩

set_option maxHeartbeats 400000 in
set_option maxRecDepth 100000 in
theorem Element_arg (h : Ty s k b r e0 e1 e2 el) (hk : ¬ (k = 2 ∨ k = 3)) (w : World) (hE : Env w) :
    Calls Tryz.prog 19 #[.string s] w fun e w' => e = .returned (.tuple #[.string ⟨#[]⟩, .int .i64 1]) ∧ Below w.heap.size w w' := by
  have hE' := Lib.hid hE
  clear hE
  go_enter Tryz.func19, Tryz.ntmps19
  go_wp2_with fail
  refine (shaped_arg h hk _ hE'.out).mono ?_
  rintro e w1 ⟨rfl, hb1⟩
  have HB1 := Lib.hid hb1
  clear hb1
  go_wp2_with fail
  go_ret2
  exact ⟨rfl, HB1.out.alloc HB1.out.size _⟩

set_option maxHeartbeats 400000 in
set_option maxRecDepth 100000 in
theorem Cells_arg (h : Ty s k b r e0 e1 e2 el) (hk : ¬ (k = 2 ∨ k = 3)) (w : World) (hE : Env w) :
    Calls Tryz.prog 17 #[.string s] w fun e w' => e = .returned (.tuple #[.int .i64 0, .int .i64 1]) ∧ Below w.heap.size w w' := by
  have hE' := Lib.hid hE
  clear hE
  go_enter Tryz.func17, Tryz.ntmps17
  go_wp2_with fail
  refine (shaped_arg h hk _ hE'.out).mono ?_
  rintro e w1 ⟨rfl, hb1⟩
  have HB1 := Lib.hid hb1
  clear hb1
  go_wp2_with fail
  go_ret2
  exact ⟨rfl, HB1.out.alloc HB1.out.size _⟩

set_option maxHeartbeats 400000 in
set_option maxRecDepth 100000 in
theorem Rank_yes (h : Ty s k b r e0 e1 e2 el) (hk : k = 2 ∨ k = 3) (w : World) (hE : Env w) :
    Calls Tryz.prog 18 #[.string s] w fun e w' => e = .returned (.tuple #[.int .i64 r, .int .i64 0]) ∧ Below w.heap.size w w' := by
  have hE' := Lib.hid hE
  clear hE
  go_enter Tryz.func18, Tryz.ntmps18
  go_wp2_with fail
  refine (shaped_yes h hk _ hE'.out).mono ?_
  rintro e w1 ⟨rfl, hb1⟩
  have HB1 := Lib.hid hb1
  clear hb1
  go_wp2_with fail
  go_ret2
  exact ⟨rfl, HB1.out.alloc HB1.out.size _⟩

set_option maxHeartbeats 400000 in
set_option maxRecDepth 100000 in
theorem Element_yes (h : Ty s k b r e0 e1 e2 el) (hk : k = 2 ∨ k = 3) (w : World) (hE : Env w) :
    Calls Tryz.prog 19 #[.string s] w fun e w' => e = .returned (.tuple #[.string el, .int .i64 0]) ∧ Below w.heap.size w w' := by
  have hE' := Lib.hid hE
  clear hE
  go_enter Tryz.func19, Tryz.ntmps19
  go_wp2_with fail
  refine (shaped_yes h hk _ hE'.out).mono ?_
  rintro e w1 ⟨rfl, hb1⟩
  have HB1 := Lib.hid hb1
  clear hb1
  go_wp2_with fail
  go_ret2
  exact ⟨rfl, HB1.out.alloc HB1.out.size _⟩

set_option maxHeartbeats 400000 in
set_option maxRecDepth 100000 in
theorem Cells_yes (h : Ty s k b r e0 e1 e2 el) (hk : k = 2 ∨ k = 3) (w : World) (hE : Env w) :
    Calls Tryz.prog 17 #[.string s] w fun e w' => e = .returned (.tuple #[.int .i64 (prodN r e0 e1 e2), .int .i64 0]) ∧ Below w.heap.size w w' := by
  have hE' := Lib.hid hE
  have hk' := Lib.hid hk
  clear hE hk
  have wf := Lib.hid (desc_wf h.is)
  go_enter Tryz.func17, Tryz.ntmps17
  go_wp2_with fail
  refine (shaped_yes h hk'.out _ hE'.out).mono ?_
  rintro e w1 ⟨rfl, hb1⟩
  have HB1 := Lib.hid hb1
  clear hb1
  go_wp2_with fail
  refine (cells_any _ _ _ _ _ r el wf.out.2.2.1 wf.out.2.2.2.1 wf.out.2.2.2.2.1 wf.out.2.2.2.2.2.1 _).mono ?_
  rintro e w2 ⟨rfl, hw2⟩
  have HB2 : Hid (Below w.heap.size w w2) := by rw [← hw2]; exact (HB1.out.alloc HB1.out.size _).alloc (by have := HB1.out.size; simp; omega) _
  clear hw2
  go_wp2_with fail
  go_ret2
  exact ⟨rfl, HB2.out⟩

theorem ty_bits {B : Nat} (h : Ty s k B r e0 e1 e2 el) : B ≤ 64 := by have := (desc_wf h.is).2.1.2; omega
theorem end3 {x y x' y' : Int} {w w' : World} (h1 : x = x') (h2 : y = y') (hb : Below w.heap.size w w') :
    Ending.returned (.tuple #[.int .i64 x, .int .i64 y, .int .i64 0]) = .returned (.tuple #[.int .i64 x', .int .i64 y', .int .i64 0]) ∧ Below w.heap.size w w' := ⟨by rw [h1, h2], hb⟩
theorem end2 {q : IntKind} {x x' : Int} {w w' : World} (h1 : x = x') (hb : Below w.heap.size w w') :
    Ending.returned (.tuple #[.int q x, .int .i64 0]) = .returned (.tuple #[.int q x', .int .i64 0]) ∧ Below w.heap.size w w' := ⟨by rw [h1], hb⟩

set_option maxHeartbeats 400000 in
set_option maxRecDepth 100000 in
theorem Range_no (h : NoTy s) (w : World) (hE : Env w) :
    Calls Tryz.prog 26 #[.string s] w fun e w' => e = .returned (.tuple #[.int .i64 0, .int .i64 0, .int .i64 10]) ∧ Below w.heap.size w w' := by
  have hE' := Lib.hid hE
  clear hE
  go_enter Tryz.func26, Tryz.ntmps26
  go_wp2_with fail
  refine (Bits_no h _ hE'.out).mono ?_
  rintro e w1 ⟨rfl, hb1⟩
  have HB1 := Lib.hid hb1
  clear hb1
  go_wp2_with fail
  go_ret3
  exact ⟨rfl, HB1.out⟩

set_option maxHeartbeats 400000 in
set_option maxRecDepth 100000 in
theorem Wrap_no (h : NoTy s) (n : Int) (w : World) (hE : Env w) :
    Calls Tryz.prog 27 #[.string s, .int .i64 n] w fun e w' => e = .returned (.tuple #[.int .i64 0, .int .i64 10]) ∧ Below w.heap.size w w' := by
  have hE' := Lib.hid hE
  clear hE
  go_enter Tryz.func27, Tryz.ntmps27
  go_wp2_with fail
  refine (Bits_no h _ hE'.out).mono ?_
  rintro e w1 ⟨rfl, hb1⟩
  have HB1 := Lib.hid hb1
  clear hb1
  go_wp2_with fail
  go_ret2
  exact ⟨rfl, HB1.out⟩

set_option maxHeartbeats 400000 in
set_option maxRecDepth 100000 in
theorem Unsigned_no (h : NoTy s) (n : Int) (w : World) (hE : Env w) :
    Calls Tryz.prog 28 #[.string s, .int .i64 n] w fun e w' => e = .returned (.tuple #[.int .u64 0, .int .i64 10]) ∧ Below w.heap.size w w' := by
  have hE' := Lib.hid hE
  clear hE
  go_enter Tryz.func28, Tryz.ntmps28
  go_wp2_with fail
  refine (Bits_no h _ hE'.out).mono ?_
  rintro e w1 ⟨rfl, hb1⟩
  have HB1 := Lib.hid hb1
  clear hb1
  go_wp2_with fail
  go_ret2
  exact ⟨rfl, HB1.out⟩

set_option maxHeartbeats 400000 in
set_option maxRecDepth 100000 in
theorem Range_arg (h : Ty s k 0 r e0 e1 e2 el) (w : World) (hE : Env w) :
    Calls Tryz.prog 26 #[.string s] w fun e w' => e = .returned (.tuple #[.int .i64 0, .int .i64 0, .int .i64 1]) ∧ Below w.heap.size w w' := by
  have hE' := Lib.hid hE
  clear hE
  go_enter Tryz.func26, Tryz.ntmps26
  go_wp2_with fail
  refine (Bits_arg h rfl _ hE'.out).mono ?_
  rintro e w1 ⟨rfl, hb1⟩
  have HB1 := Lib.hid hb1
  clear hb1
  go_wp2_with fail
  go_ret3
  exact ⟨rfl, HB1.out⟩

set_option maxHeartbeats 400000 in
set_option maxRecDepth 100000 in
theorem Wrap_arg (h : Ty s k 0 r e0 e1 e2 el) (n : Int) (w : World) (hE : Env w) :
    Calls Tryz.prog 27 #[.string s, .int .i64 n] w fun e w' => e = .returned (.tuple #[.int .i64 0, .int .i64 1]) ∧ Below w.heap.size w w' := by
  have hE' := Lib.hid hE
  clear hE
  go_enter Tryz.func27, Tryz.ntmps27
  go_wp2_with fail
  refine (Bits_arg h rfl _ hE'.out).mono ?_
  rintro e w1 ⟨rfl, hb1⟩
  have HB1 := Lib.hid hb1
  clear hb1
  go_wp2_with fail
  go_ret2
  exact ⟨rfl, HB1.out⟩

set_option maxHeartbeats 400000 in
set_option maxRecDepth 100000 in
theorem Unsigned_arg (h : Ty s k 0 r e0 e1 e2 el) (n : Int) (w : World) (hE : Env w) :
    Calls Tryz.prog 28 #[.string s, .int .i64 n] w fun e w' => e = .returned (.tuple #[.int .u64 0, .int .i64 1]) ∧ Below w.heap.size w w' := by
  have hE' := Lib.hid hE
  clear hE
  go_enter Tryz.func28, Tryz.ntmps28
  go_wp2_with fail
  refine (Bits_arg h rfl _ hE'.out).mono ?_
  rintro e w1 ⟨rfl, hb1⟩
  have HB1 := Lib.hid hb1
  clear hb1
  go_wp2_with fail
  go_ret2
  exact ⟨rfl, HB1.out⟩

set_option maxHeartbeats 400000 in
set_option maxRecDepth 100000 in
theorem Range_yes {B : Nat} (h : Ty s k B r e0 e1 e2 el) (h0 : 0 < B) (w : World) (hE : Env w) :
    Calls Tryz.prog 26 #[.string s] w fun e w' => e = .returned (.tuple #[.int .i64 (-2 ^ (B - 1)), .int .i64 (2 ^ (B - 1) - 1), .int .i64 0]) ∧ Below w.heap.size w w' := by
  have hE' := Lib.hid hE
  clear hE
  have hb64 := ty_bits h
  go_enter Tryz.func26, Tryz.ntmps26
  go_wp2_with fail
  refine (Bits_yes h (by omega) _ hE'.out).mono ?_
  rintro e w1 ⟨rfl, hb1⟩
  have HB1 := Lib.hid hb1
  clear hb1
  go_wp2_with fail
  go_ret3
  exact end3 (low_ok ⟨B - 1, by omega⟩) (high_ok ⟨B - 1, by omega⟩) HB1.out

set_option maxHeartbeats 400000 in
set_option maxRecDepth 100000 in
theorem Wrap_yes {B : Nat} (h : Ty s k B r e0 e1 e2 el) (h0 : 0 < B) (n : Int) (w : World) (hE : Env w) :
    Calls Tryz.prog 27 #[.string s, .int .i64 n] w fun e w' => e = .returned (.tuple #[.int .i64 (sw B n), .int .i64 0]) ∧ Below w.heap.size w w' := by
  have hE' := Lib.hid hE
  clear hE
  have hb64 := ty_bits h
  go_enter Tryz.func27, Tryz.ntmps27
  go_wp2_with fail
  refine (Bits_yes h (by omega) _ hE'.out).mono ?_
  rintro e w1 ⟨rfl, hb1⟩
  have HB1 := Lib.hid hb1
  clear hb1
  go_wp2_with fail
  go_ret2
  exact end2 (wrap_shift (by omega) h0 n) HB1.out

set_option maxHeartbeats 400000 in
set_option maxRecDepth 100000 in
theorem Unsigned_yes {B : Nat} (h : Ty s k B r e0 e1 e2 el) (h0 : 0 < B) (n : Int) (w : World) (hE : Env w) :
    Calls Tryz.prog 28 #[.string s, .int .i64 n] w fun e w' => e = .returned (.tuple #[.int .u64 (n % 2 ^ B), .int .i64 0]) ∧ Below w.heap.size w w' := by
  have hE' := Lib.hid hE
  clear hE
  have hb64 := ty_bits h
  go_enter Tryz.func28, Tryz.ntmps28
  go_wp2_with fail
  refine (Bits_yes h (by omega) _ hE'.out).mono ?_
  rintro e w1 ⟨rfl, hb1⟩
  have HB1 := Lib.hid hb1
  clear hb1
  go_wp2_with fail
  go_ret2
  exact end2 (uns_shift (by omega) n) HB1.out

end
end Go.Proofs.YtjkhjflemcljdaaGreatDoor
