/-
  'shaped' and the calls of package types that take a type, by contracts: of a string that is none, of a type of another kind, of one of the right kind.
-/
import Derived.Test.YtjkhjflemcljdaaGreatDoorH
namespace Go.Proofs.YtjkhjflemcljdaaGreatDoor
open Go.RowKit

theorem desc_el {k b : Int} {r : Nat} {e0 e1 e2 : Int} {el el' : ByteArray} {k' b' : Int} {r' : Nat} {x0 x1 x2 : Int} {l : List UInt8} (h : descSpec l = ⟨k, b, r, e0, e1, e2, el.data.toList⟩) (h' : descSpec l = ⟨k', b', r', x0, x1, x2, el'.data.toList⟩) :
    k = k' ∧ b = b' ∧ r = r' ∧ e0 = x0 ∧ e1 = x1 ∧ e2 = x2 ∧ el = el' := by
  have e := h.symm.trans h'
  injection e with a1 a2 a3 a4 a5 a6 a7
  exact ⟨a1, a2, a3, a4, a5, a6, by apply ByteArray.ext; exact Array.ext' a7⟩

/-- A string that is no type. -/
def NoTy (s : ByteArray) : Prop := descSpec s.data.toList = descZero
/-- What a type says. -/
structure Ty (s : ByteArray) (k b : Int) (r : Nat) (e0 e1 e2 : Int) (el : ByteArray) : Prop where
  is : descSpec s.data.toList = ⟨k, b, r, e0, e1, e2, el.data.toList⟩
  nz : ¬ (k = 0 ∧ b = 0)

theorem described_no (s : ByteArray) (h : NoTy s) (w : World) (hE : Env w) :
    Calls Tryz.prog 43 #[.string s] w fun e w' => e = .returned (.tuple #[.agg #[.int .i64 0, .int .i64 0, .int .i64 0, .int .i64 0, .int .i64 0, .int .i64 0, .string ⟨#[]⟩], .int .i64 10]) ∧ Below w.heap.size w w' :=
  (described_any s w hE).mono fun e w' ⟨hb, hp⟩ => by
    rcases hp with ⟨_, he⟩ | ⟨k, b, r, e0, e1, e2, el, hd, hn, he⟩
    · exact ⟨he, hb⟩
    · have := h.symm.trans hd
      injection this with a1 a2
      exact absurd ⟨a1.symm, a2.symm⟩ hn
section
variable {s el : ByteArray} {k b e0 e1 e2 : Int} {r : Nat}
theorem described_yes (h : Ty s k b r e0 e1 e2 el) (w : World) (hE : Env w) :
    Calls Tryz.prog 43 #[.string s] w fun e w' => e = .returned (.tuple #[.agg #[.int .i64 k, .int .i64 b, .int .i64 r, .int .i64 e0, .int .i64 e1, .int .i64 e2, .string el], .int .i64 0]) ∧ Below w.heap.size w w' :=
  (described_any s w hE).mono fun e w' ⟨hb, hp⟩ => by
    rcases hp with ⟨hz, _⟩ | ⟨k', b', r', x0, x1, x2, el', hd, hn, he⟩
    · have := h.is.symm.trans hz
      injection this with a1 a2
      exact absurd ⟨a1, a2⟩ h.nz
    · obtain ⟨rfl, rfl, rfl, rfl, rfl, rfl, rfl⟩ := desc_el h.is hd
      exact ⟨he, hb⟩

set_option maxHeartbeats 400000 in
set_option maxRecDepth 100000 in
theorem Check_no (h : NoTy s) (w : World) (hE : Env w) :
    Calls Tryz.prog 11 #[.string s] w fun e w' => e = .returned (.int .i64 10) ∧ Below w.heap.size w w' := by
  have hE' := Lib.hid hE
  clear hE
  go_enter Tryz.func11, Tryz.ntmps11
  go_wp2_with fail
  refine (described_no s h _ hE'.out).mono ?_
  rintro e w1 ⟨rfl, hb1⟩
  have HB1 := Lib.hid hb1
  clear hb1
  go_wp2_with fail
  go_ret
  exact ⟨rfl, HB1.out.alloc HB1.out.size _⟩

set_option maxHeartbeats 400000 in
set_option maxRecDepth 100000 in
theorem Check_yes (h : Ty s k b r e0 e1 e2 el) (w : World) (hE : Env w) :
    Calls Tryz.prog 11 #[.string s] w fun e w' => e = .returned (.int .i64 0) ∧ Below w.heap.size w w' := by
  have hE' := Lib.hid hE
  clear hE
  go_enter Tryz.func11, Tryz.ntmps11
  go_wp2_with fail
  refine (described_yes h _ hE'.out).mono ?_
  rintro e w1 ⟨rfl, hb1⟩
  have HB1 := Lib.hid hb1
  clear hb1
  go_wp2_with fail
  go_ret
  exact ⟨rfl, HB1.out.alloc HB1.out.size _⟩

set_option maxHeartbeats 400000 in
set_option maxRecDepth 100000 in
theorem KindOf_no (h : NoTy s) (w : World) (hE : Env w) :
    Calls Tryz.prog 12 #[.string s] w fun e w' => e = .returned (.tuple #[.int .i64 0, .int .i64 10]) ∧ Below w.heap.size w w' := by
  have hE' := Lib.hid hE
  clear hE
  go_enter Tryz.func12, Tryz.ntmps12
  go_wp2_with fail
  refine (described_no s h _ hE'.out).mono ?_
  rintro e w1 ⟨rfl, hb1⟩
  have HB1 := Lib.hid hb1
  clear hb1
  go_wp2_with fail
  go_ret2
  exact ⟨rfl, HB1.out.alloc HB1.out.size _⟩

set_option maxHeartbeats 400000 in
set_option maxRecDepth 100000 in
theorem KindOf_yes (h : Ty s k b r e0 e1 e2 el) (w : World) (hE : Env w) :
    Calls Tryz.prog 12 #[.string s] w fun e w' => e = .returned (.tuple #[.int .i64 k, .int .i64 0]) ∧ Below w.heap.size w w' := by
  have hE' := Lib.hid hE
  clear hE
  go_enter Tryz.func12, Tryz.ntmps12
  go_wp2_with fail
  refine (described_yes h _ hE'.out).mono ?_
  rintro e w1 ⟨rfl, hb1⟩
  have HB1 := Lib.hid hb1
  clear hb1
  go_wp2_with fail
  go_ret2
  exact ⟨rfl, HB1.out.alloc HB1.out.size _⟩

set_option maxHeartbeats 400000 in
set_option maxRecDepth 100000 in
theorem Bits_no (h : NoTy s) (w : World) (hE : Env w) :
    Calls Tryz.prog 13 #[.string s] w fun e w' => e = .returned (.tuple #[.int .i64 0, .int .i64 10]) ∧ Below w.heap.size w w' := by
  have hE' := Lib.hid hE
  clear hE
  go_enter Tryz.func13, Tryz.ntmps13
  go_wp2_with fail
  refine (described_no s h _ hE'.out).mono ?_
  rintro e w1 ⟨rfl, hb1⟩
  have HB1 := Lib.hid hb1
  clear hb1
  go_wp2_with fail
  go_ret2
  exact ⟨rfl, HB1.out.alloc HB1.out.size _⟩

set_option maxHeartbeats 400000 in
set_option maxRecDepth 100000 in
theorem Bits_arg (h : Ty s k b r e0 e1 e2 el) (hb : b = 0) (w : World) (hE : Env w) :
    Calls Tryz.prog 13 #[.string s] w fun e w' => e = .returned (.tuple #[.int .i64 0, .int .i64 1]) ∧ Below w.heap.size w w' := by
  have hE' := Lib.hid hE
  clear hE
  have hpos : decide (0 < b) = false := by subst hb; rfl
  clear hb
  go_enter Tryz.func13, Tryz.ntmps13
  go_wp2_with fail
  refine (described_yes h _ hE'.out).mono ?_
  rintro e w1 ⟨rfl, hb1⟩
  have HB1 := Lib.hid hb1
  clear hb1
  go_wp2_with fail
  refine (isNumber_any _ _ _ _ _ _ _ _).mono ?_
  rintro e w2 ⟨rfl, hw2⟩
  have HB2 : Hid (Below w.heap.size w w2) := by rw [← hw2]; exact (HB1.out.alloc HB1.out.size _).alloc (by have := HB1.out.size; simp; omega) _
  have c1 : w2.cell? ⟨w1.heap.size, 1, none⟩ = some (.int .i64 b) := by rw [← hw2]; simp
  clear hw2
  go_wp2_with fail
  go_ret2
  exact ⟨rfl, HB2.out⟩

set_option maxHeartbeats 400000 in
set_option maxRecDepth 100000 in
theorem Bits_yes (h : Ty s k b r e0 e1 e2 el) (hb : 0 < b) (w : World) (hE : Env w) :
    Calls Tryz.prog 13 #[.string s] w fun e w' => e = .returned (.tuple #[.int .i64 b, .int .i64 0]) ∧ Below w.heap.size w w' := by
  have hE' := Lib.hid hE
  clear hE
  have hpos : decide (0 < b) = true := decide_eq_true hb
  clear hb
  go_enter Tryz.func13, Tryz.ntmps13
  go_wp2_with fail
  refine (described_yes h _ hE'.out).mono ?_
  rintro e w1 ⟨rfl, hb1⟩
  have HB1 := Lib.hid hb1
  clear hb1
  go_wp2_with fail
  refine (isNumber_any _ _ _ _ _ _ _ _).mono ?_
  rintro e w2 ⟨rfl, hw2⟩
  have HB2 : Hid (Below w.heap.size w w2) := by rw [← hw2]; exact (HB1.out.alloc HB1.out.size _).alloc (by have := HB1.out.size; simp; omega) _
  have c1 : w2.cell? ⟨w1.heap.size, 1, none⟩ = some (.int .i64 b) := by rw [← hw2]; simp
  clear hw2
  go_wp2_with fail
  go_ret2
  exact ⟨rfl, HB2.out⟩

end
end Go.Proofs.YtjkhjflemcljdaaGreatDoor
