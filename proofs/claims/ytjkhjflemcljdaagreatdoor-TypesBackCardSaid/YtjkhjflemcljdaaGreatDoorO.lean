/-
  'Turned' by contracts.
-/
import Derived.Test.YtjkhjflemcljdaaGreatDoorJ
import Derived.Test.YtjkhjflemcljdaaGreatDoorN
namespace Go.Proofs.YtjkhjflemcljdaaGreatDoor
open Go.RowKit
section
variable {s el : ByteArray} {k b e0 e1 e2 : Int} {r : Nat}

set_option maxHeartbeats 400000 in
set_option maxRecDepth 100000 in
theorem Turned_no (h : NoTy s) (w : World) (hE : Env w) :
    Calls Tryz.prog 20 #[.string s] w fun e w' => e = .returned (.tuple #[.string ⟨#[]⟩, .int .i64 10]) ∧ Below w.heap.size w w' := by
  have hE' := Lib.hid hE
  clear hE
  go_enter Tryz.func20, Tryz.ntmps20
  go_wp2_with fail
  refine (shaped_no h _ hE'.out).mono ?_
  rintro e w1 ⟨rfl, hb1⟩
  have HB1 := Lib.hid hb1
  clear hb1
  go_wp2_with fail
  go_ret2
  exact ⟨rfl, HB1.out.alloc HB1.out.size _⟩

set_option maxHeartbeats 400000 in
set_option maxRecDepth 100000 in
theorem Turned_arg (h : Ty s k b r e0 e1 e2 el) (hk : ¬ (k = 2 ∨ k = 3)) (w : World) (hE : Env w) :
    Calls Tryz.prog 20 #[.string s] w fun e w' => e = .returned (.tuple #[.string ⟨#[]⟩, .int .i64 1]) ∧ Below w.heap.size w w' := by
  have hE' := Lib.hid hE
  clear hE
  go_enter Tryz.func20, Tryz.ntmps20
  go_wp2_with fail
  refine (shaped_arg h hk _ hE'.out).mono ?_
  rintro e w1 ⟨rfl, hb1⟩
  have HB1 := Lib.hid hb1
  clear hb1
  go_wp2_with fail
  go_ret2
  exact ⟨rfl, HB1.out.alloc HB1.out.size _⟩

set_option maxHeartbeats 400000 in
set_option maxRecDepth 100000 in
theorem Turned_2 (h : Ty s 2 b r e0 e1 e2 el) (h0 : 0 ≤ e0 ∧ e0 ≤ 1000) (h1 : 0 ≤ e1 ∧ e1 ≤ 1000) (h2 : 0 ≤ e2 ∧ e2 ≤ 1000) (hr : r ≤ 3) (hel : el.size ≤ 1000000) (w : World) (hE : Env w) :
    Calls Tryz.prog 20 #[.string s] w fun e w' => e = .returned (.tuple #[.string ⟨(textSpec 3 r ⟨e0, h0⟩ ⟨e1, h1⟩ ⟨e2, h2⟩ el.data.toList).toArray⟩, .int .i64 0]) ∧ Below w.heap.size w w' := by
  have hE' := Lib.hid hE
  clear hE
  go_enter Tryz.func20, Tryz.ntmps20
  go_wp2_with fail
  refine (shaped_yes h (by omega) _ hE'.out).mono ?_
  rintro e w1 ⟨rfl, hb1⟩
  have HB1 := Lib.hid hb1
  clear hb1
  go_wp2_with fail
  have HB2 := Lib.hid (HB1.out.alloc HB1.out.size (.cells #[.int .i64 3, .int .i64 b, .int .i64 r, .int .i64 e0, .int .i64 e1, .int .i64 e2, .string el] 76))
  refine (text_any 3 b (by omega) r hr ⟨e0, h0⟩ ⟨e1, h1⟩ ⟨e2, h2⟩ el hel _ (hE'.out.below HB2.out)).mono ?_
  rintro e w2 ⟨rfl, hb2⟩
  have HB3 := Lib.hid (HB2.out.trans (hb2.mono HB2.out.size))
  clear hb2
  go_wp2_with fail
  go_ret2
  exact ⟨rfl, HB3.out⟩

set_option maxHeartbeats 400000 in
set_option maxRecDepth 100000 in
theorem Turned_3 (h : Ty s 3 b r e0 e1 e2 el) (h0 : 0 ≤ e0 ∧ e0 ≤ 1000) (h1 : 0 ≤ e1 ∧ e1 ≤ 1000) (h2 : 0 ≤ e2 ∧ e2 ≤ 1000) (hr : r ≤ 3) (hel : el.size ≤ 1000000) (w : World) (hE : Env w) :
    Calls Tryz.prog 20 #[.string s] w fun e w' => e = .returned (.tuple #[.string ⟨(textSpec 2 r ⟨e0, h0⟩ ⟨e1, h1⟩ ⟨e2, h2⟩ el.data.toList).toArray⟩, .int .i64 0]) ∧ Below w.heap.size w w' := by
  have hE' := Lib.hid hE
  clear hE
  go_enter Tryz.func20, Tryz.ntmps20
  go_wp2_with fail
  refine (shaped_yes h (by omega) _ hE'.out).mono ?_
  rintro e w1 ⟨rfl, hb1⟩
  have HB1 := Lib.hid hb1
  clear hb1
  go_wp2_with fail
  have HB2 := Lib.hid (HB1.out.alloc HB1.out.size (.cells #[.int .i64 2, .int .i64 b, .int .i64 r, .int .i64 e0, .int .i64 e1, .int .i64 e2, .string el] 76))
  refine (text_any 2 b (by omega) r hr ⟨e0, h0⟩ ⟨e1, h1⟩ ⟨e2, h2⟩ el hel _ (hE'.out.below HB2.out)).mono ?_
  rintro e w2 ⟨rfl, hb2⟩
  have HB3 := Lib.hid (HB2.out.trans (hb2.mono HB2.out.size))
  clear hb2
  go_wp2_with fail
  go_ret2
  exact ⟨rfl, HB3.out⟩

end
end Go.Proofs.YtjkhjflemcljdaaGreatDoor
