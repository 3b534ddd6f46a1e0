/-
  'slices.Collect' and 'Shape' by contracts.
-/
import Derived.Test.YtjkhjflemcljdaaGreatDoorBA
import Derived.Test.YtjkhjflemcljdaaGreatDoorO
import Derived.Deep.RegionWith
import Derived.Deep.Cut
import Derived.Deep.DeepCutAuto
import Derived.BigQuiet
namespace Go.Proofs.YtjkhjflemcljdaaGreatDoor
open Go.RowKit

set_option maxHeartbeats 400000 in
theorem Collect_any (k b : Int) (r : Nat) (hr : r ≤ 3) (x0 x1 x2 : Ext) (el : ByteArray) (Bs : Nat) (w : World)
    (hb : w.heap[Bs]? = some (.cells #[.int .i64 k, .int .i64 b, .int .i64 r, .int .i64 x0.1, .int .i64 x1.1, .int .i64 x2.1, .string el] 76 (0, 0))) :
    Calls Tryz.prog 46 #[.func (.func 60) #[] #[.pointer (some ⟨Bs, 0, none⟩)]] w
      fun e w' => ∃ (ao : Option Addr) (c : Nat), e = .returned (.slice ao r c) ∧ IntsAt w' ao ([x0.1, x1.1, x2.1].take r) ∧ Below w.heap.size w w' := by
  have HB := Lib.hid hb
  clear hb
  go_enter Tryz.func46, Tryz.ntmps46
  go_wp2_with fail
  refine (appendSeq_any k b r hr x0 x1 x2 el Bs _ HB.out).mono ?_
  rintro e w1 ⟨ao, c, rfl, hi, hb1⟩
  have HI := Lib.hid hi
  have HB1 := Lib.hid hb1
  clear hi hb1
  go_wp2_with fail
  go_ret
  exact ⟨ao, c, rfl, HI.out, HB1.out⟩

theorem each_some (k b : Int) (r : Nat) (e0 e1 e2 : Int) (el : ByteArray) (w : World) :
    Calls Tryz.prog 47 #[.agg #[.int .i64 k, .int .i64 b, .int .i64 r, .int .i64 e0, .int .i64 e1, .int .i64 e2, .string el]] w
      fun e w' => ∃ Bs, e = .returned (.func (.func 60) #[] #[.pointer (some ⟨Bs, 0, none⟩)]) ∧
        w'.heap[Bs]? = some (.cells #[.int .i64 k, .int .i64 b, .int .i64 r, .int .i64 e0, .int .i64 e1, .int .i64 e2, .string el] 76 (0, 0)) ∧ Below w.heap.size w w' :=
  (each_any k b r e0 e1 e2 el w).mono fun e w' ⟨he, hw⟩ => ⟨_, he, by rw [← hw]; exact heap_alloc_new _ _, by rw [← hw]; exact (Below.refl _ _).alloc (Nat.le_refl _) _⟩

section
variable {s el : ByteArray} {k b e0 e1 e2 : Int} {r : Nat}
set_option maxHeartbeats 400000 in
set_option maxRecDepth 100000 in
theorem Shape_no (h : NoTy s) (w : World) (hE : Env w) :
    Calls Tryz.prog 16 #[.string s] w fun e w' => e = .returned (.tuple #[.slice none 0 0, .string ⟨#[]⟩, .int .i64 10]) ∧ Below w.heap.size w w' := by
  have hE' := Lib.hid hE
  clear hE
  go_enter Tryz.func16, Tryz.ntmps16
  go_wp2_with fail
  refine (shaped_no h _ hE'.out).mono ?_
  rintro e w1 ⟨rfl, hb1⟩
  have HB1 := Lib.hid hb1
  clear hb1
  go_wp2_with fail
  go_ret3
  exact ⟨rfl, HB1.out.alloc HB1.out.size _⟩

set_option maxHeartbeats 400000 in
set_option maxRecDepth 100000 in
theorem Shape_arg (h : Ty s k b r e0 e1 e2 el) (hk : ¬ (k = 2 ∨ k = 3)) (w : World) (hE : Env w) :
    Calls Tryz.prog 16 #[.string s] w fun e w' => e = .returned (.tuple #[.slice none 0 0, .string ⟨#[]⟩, .int .i64 1]) ∧ Below w.heap.size w w' := by
  have hE' := Lib.hid hE
  clear hE
  go_enter Tryz.func16, Tryz.ntmps16
  go_wp2_with fail
  refine (shaped_arg h hk _ hE'.out).mono ?_
  rintro e w1 ⟨rfl, hb1⟩
  have HB1 := Lib.hid hb1
  clear hb1
  go_wp2_with fail
  go_ret3
  exact ⟨rfl, HB1.out.alloc HB1.out.size _⟩

set_option maxHeartbeats 4000000 in
set_option maxRecDepth 100000 in
theorem Shape_yes (h : Ty s k b r e0 e1 e2 el) (hk : k = 2 ∨ k = 3) (hr : r ≤ 3) (h0 : 0 ≤ e0 ∧ e0 ≤ 1000) (h1 : 0 ≤ e1 ∧ e1 ≤ 1000) (h2 : 0 ≤ e2 ∧ e2 ≤ 1000) (w : World) (hE : Env w) :
    Calls Tryz.prog 16 #[.string s] w fun e w' => ∃ (ao : Option Addr) (c : Nat), e = .returned (.tuple #[.slice ao r c, .string el, .int .i64 0]) ∧ IntsAt w' ao ([e0, e1, e2].take r) ∧ Below w.heap.size w w' := by
  have hE' := Lib.hid hE
  have HK := Lib.hid hk
  clear hE hk
  go_enter Tryz.func16, Tryz.ntmps16
  go_wp2_with fail
  refine (shaped_yes h HK.out _ hE'.out).mono ?_
  rintro e w1 ⟨rfl, hb1⟩
  have HB1 := Lib.hid hb1
  clear hb1
  go_upto_region 4 with fail
  have B1 := Lib.hid (HB1.out.alloc HB1.out.size (.cells #[.int .i64 k, .int .i64 b, .int .i64 r, .int .i64 e0, .int .i64 e1, .int .i64 e2, .string el] 76))
  have T1 := Lib.hid (heap_alloc_new w1 (.cells #[.int .i64 k, .int .i64 b, .int .i64 r, .int .i64 e0, .int .i64 e1, .int .i64 e2, .string el] 76))
  generalize w1.alloc (.cells #[.int .i64 k, .int .i64 b, .int .i64 r, .int .i64 e0, .int .i64 e1, .int .i64 e2, .string el] 76) = W1 at B1 T1 ⊢
  generalize w1.heap.size = D at T1 ⊢
  clear HB1 hE' HK
  obtain ⟨c0, c1, c2, c3, c4, c5, c6, cf⟩ := cells7 T1.out
  have TD : Hid (W1.drew.heap[D]? = some (.cells #[.int .i64 k, .int .i64 b, .int .i64 r, .int .i64 e0, .int .i64 e1, .int .i64 e2, .string el] 76 (0, 0))) := T1
  have BD := Lib.hid B1.out.drew
  go_region_with (first
    | (go_at_call 47; refine (each_some _ _ _ _ _ _ _ _).mono ?_; rintro e w2 ⟨Bs, rfl, hs, hb⟩; have S2 := Lib.hid hs; have T2 := Lib.hid ((hb.block _ (lt_of_block TD.out)).trans TD.out); have B2 := Lib.hid (BD.out.trans (hb.mono BD.out.size)); have d6 := (cells7 T2.out).2.2.2.2.2.2.1; clear hs hb)
    | (go_at_call 46; refine (Collect_any k b r hr ⟨e0, h0⟩ ⟨e1, h1⟩ ⟨e2, h2⟩ el _ _ S2.out).mono ?_; rintro e w3 ⟨ao, c, rfl, hi, hb⟩; have HI := Lib.hid hi; have T3 := Lib.hid ((hb.block _ (lt_of_block T2.out)).trans T2.out); have B3 := Lib.hid (B2.out.trans (hb.mono B2.out.size)); have g6 := (cells7 T3.out).2.2.2.2.2.2.1; clear hi hb))
  all_goals
    go_wp2_with fail
    go_ret3
    exact ⟨ao, c, rfl, HI.out, B3.out⟩
end
end Go.Proofs.YtjkhjflemcljdaaGreatDoor
