/-
  The iterator over the extents, by its contract; 'strconv.Itoa' as the string's maker needs it.
-/
import Derived.Test.YtjkhjflemcljdaaGreatDoorK
import Derived.Test.YtjkhjflemcljdaaGreatDoorE
import Derived.RangeFuncNested
import Derived.RangeFuncBound
import Derived.RangeFuncCalls
import Derived.RangeFuncLeaves
import Derived.RangeFuncBox
import Derived.Shelf.Abstract
import Derived.Shelf.RegionOpen
import Derived.OwnWalkIn
import Derived.TacticsInMore
import Derived.LoopNIn
import Derived.LoopIn
namespace Go.Proofs.YtjkhjflemcljdaaGreatDoor
open Go.RowKit Go.Shelf
attribute [local go_sem] Oper.semAt_some

theorem nDigits_le {u : Nat} (h : u < 10000) : Lib.nDigits u ≤ 4 := by
  by_cases h1 : u < 10
  · rw [Lib.nDigits_small h1]; omega
  rw [Lib.nDigits_big h1]
  by_cases h2 : u / 10 < 10
  · rw [Lib.nDigits_small h2]; omega
  rw [Lib.nDigits_big h2]
  by_cases h3 : u / 10 / 10 < 10
  · rw [Lib.nDigits_small h3]; omega
  rw [Lib.nDigits_big h3, Lib.nDigits_small (by omega)]
  omega
theorem itoa_len {x : Int} (h : 0 ≤ x ∧ x ≤ 1000) : (Lib.itoa x).length ≤ 4 := by
  rw [Lib.itoa, if_neg (by omega), Lib.decDigits_length]
  exact nDigits_le (by omega)

theorem grow_keeps (w : World) (k : Nat) (os : Array Obj) : Below w.heap.size w (Go.Sort.grow (w.drewN k) os) ∧ KeepsOthers w (Go.Sort.grow (w.drewN k) os) := by
  have h : ∀ i, i < w.heap.size → (Go.Sort.grow (w.drewN k) os).heap[i]? = w.heap[i]? := fun i hi => by
    show (w.heap ++ os)[i]? = _
    rw [Array.getElem?_append, if_pos hi]
  have hs : w.heap.size ≤ (Go.Sort.grow (w.drewN k) os).heap.size := by
    show _ ≤ (w.heap ++ os).size
    simp
  exact ⟨⟨rfl, rfl, rfl, hs, h⟩, ⟨hs, fun i o ho _ => (h i (lt_of_block ho)).trans ho⟩⟩

theorem itoa_any (x : Int) (hx : 0 ≤ x ∧ x ≤ 1000) (w : World) (hE : Env w) :
    Calls Tryz.prog 64 #[.int .i64 x] w fun e w' => e = .returned (.string ⟨(Lib.itoa x).toArray⟩) ∧ Below w.heap.size w w' ∧ KeepsOthers w w' :=
  (Tryz.strconv_Itoa x (by omega) (by omega) w hE.pow).mono fun e w' ⟨he, k, os, hw⟩ => ⟨he, by subst hw; exact grow_keeps w k os⟩

/-- An extent. -/
abbrev Ext := { x : Int // 0 ≤ x ∧ x ≤ 1000 }

/-- The first n of three extents. -/
def exts (n : Nat) (x0 x1 x2 : Ext) : List Ext := [x0, x1, x2].take n

set_option maxRecDepth 100000 in
set_option maxHeartbeats 2000000 in
theorem each1_in (F : Fence) (n : Nat) (hf : F.fn 60) (hro : F.round = none) (hn : 1 ≤ n) (l Bs : Nat) (k b : Int) (r : Nat) (hr : r ≤ 3) (x0 x1 x2 : Ext) (el : ByteArray) (J Jx : List Ext → World → Prop)
    (hY : ∀ pre (x : Ext) W, J pre W → pre.length < r → YieldAt F (n - 1) Tryz.prog l #[.int .i64 x.1] W fun e W' =>
      (e = .returned (.bool true) ∧ J (pre ++ [x]) W' ∧ KeepD W W') ∨ (e = .returned (.bool false) ∧ Jx (pre ++ [x]) W'))
    (W : World) (hb : W.heap[Bs]? = some (.cells #[.int .i64 k, .int .i64 b, .int .i64 r, .int .i64 x0.1, .int .i64 x1.1, .int .i64 x2.1, .string el] 76 (0, 0))) (h0 : J [] W) :
    CallsIn F n Tryz.prog 60 #[.func (.yield l) #[] #[], .pointer (some ⟨Bs, 0, none⟩)] W fun e W' => (∃ v, e = .returned v) ∧
      ((∃ ys, ys = exts r x0 x1 x2 ∧ J ys W') ∨ (∃ pre, pre <+: exts r x0 x1 x2 ∧ Jx pre W')) := by
  have HB := Lib.hid hb
  obtain ⟨c0, c1, c2, c3, c4, c5, c6, _⟩ := cells7 hb
  clear hb c0 c1 c3 c4 c5 c6
  have hsl := slice_ext r hr
  refine callsIn_of_wp Tryz.func60 rfl hf ?_ hro
  simp only [Tryz.ntmps60, List.size_toArray, List.length_cons, List.length_nil, Nat.reduceAdd, Nat.reduceSub, Array.replicate_succ, Array.replicate_zero, List.push_toArray, List.append_toArray, List.nil_append, List.cons_append]
  gi_wp2
  gi_loopw [10] (fun i wr => ∃ m : Nat, m ≤ r ∧ i = .int .i64 m ∧ J (exts m x0 x1 x2) wr ∧ KeepD W wr) (fun i _ => r - (intOf i).toNat)
  case atStart => exact ⟨0, Nat.zero_le _, rfl, h0, KeepD.refl _⟩
  case round =>
    obtain ⟨m, hm, rfl, hJ, hK⟩ := hrel
    obtain ⟨d0, d1, d2, d3, d4, d5, d6, _⟩ := cells7 (hK _ _ _ HB.out)
    clear d0 d1 d2 d6
    by_cases hlt : m < r
    · rcases (show m = 0 ∨ m = 1 ∨ m = 2 by omega) with rfl | rfl | rfl
      · obtain ⟨fn, tmps, assign, body, hy, hR⟩ := hY _ x0 wr hJ (by simp [exts]; omega)
        gi_wp2
        refine hR.mono ?_
        rintro e W3 (⟨rfl, hJ3, hk3⟩ | ⟨rfl, hJx3⟩)
        · gi_wp2
          go_roundw
          case rel => exact ⟨1, by omega, by simp, hJ3, hK.trans hk3⟩
          case measure => simp [intOf]; omega
        · gi_wp2
          refine bodyPost_ret (results_none rfl _ _ _) rfl ?_
          exact ⟨⟨_, rfl⟩, .inr ⟨_, by rcases (show r = 1 ∨ r = 2 ∨ r = 3 by omega) with rfl | rfl | rfl <;> simp [exts], hJx3⟩⟩
      · obtain ⟨fn, tmps, assign, body, hy, hR⟩ := hY _ x1 wr hJ (by simp [exts]; omega)
        gi_wp2
        refine hR.mono ?_
        rintro e W3 (⟨rfl, hJ3, hk3⟩ | ⟨rfl, hJx3⟩)
        · gi_wp2
          go_roundw
          case rel => exact ⟨2, by omega, by simp, hJ3, hK.trans hk3⟩
          case measure => simp [intOf]; omega
        · gi_wp2
          refine bodyPost_ret (results_none rfl _ _ _) rfl ?_
          exact ⟨⟨_, rfl⟩, .inr ⟨_, by rcases (show r = 2 ∨ r = 3 by omega) with rfl | rfl <;> simp [exts], hJx3⟩⟩
      · obtain ⟨fn, tmps, assign, body, hy, hR⟩ := hY _ x2 wr hJ (by simp [exts]; omega)
        gi_wp2
        refine hR.mono ?_
        rintro e W3 (⟨rfl, hJ3, hk3⟩ | ⟨rfl, hJx3⟩)
        · gi_wp2
          go_roundw
          case rel => exact ⟨3, by omega, by simp, hJ3, hK.trans hk3⟩
          case measure => simp [intOf]; omega
        · gi_wp2
          refine bodyPost_ret (results_none rfl _ _ _) rfl ?_
          exact ⟨⟨_, rfl⟩, .inr ⟨_, by rcases (show r = 3 by omega) with rfl; simp [exts], hJx3⟩⟩
    · obtain rfl : m = r := by omega
      gi_wp2
      go_end0
      exact ⟨⟨_, rfl⟩, .inl ⟨_, rfl, hJ⟩⟩

theorem each_stops (F : Fence) (n : Nat) (hf : F.fn 60) (hro : F.round = none) (hn : 1 ≤ n) (Bs : Nat) (k b : Int) (r : Nat) (hr : r ≤ 3) (x0 x1 x2 : Ext) (el : ByteArray) (w : World)
    (hb : w.heap[Bs]? = some (.cells #[.int .i64 k, .int .i64 b, .int .i64 r, .int .i64 x0.1, .int .i64 x1.1, .int .i64 x2.1, .string el] 76 (0, 0))) :
    SeqStopsK F n Tryz.prog 60 #[.pointer (some ⟨Bs, 0, none⟩)] (fun x : Ext => #[Value.int .i64 x.1]) KeepD (fun ys => ys = exts r x0 x1 x2) (fun pre => pre <+: exts r x0 x1 x2) r w := fun l J Jx W hW _ _ hY h0 =>
  each1_in F n hf hro hn l Bs k b r hr x0 x1 x2 el J Jx hY W ((hW.block Bs (lt_of_block hb)).trans hb) h0

set_option maxHeartbeats 400000 in
theorem each_any (k b r e0 e1 e2 : Int) (el : ByteArray) (w : World) :
    Calls Tryz.prog 47 #[.agg #[.int .i64 k, .int .i64 b, .int .i64 r, .int .i64 e0, .int .i64 e1, .int .i64 e2, .string el]] w
      fun e w' => e = .returned (.func (.func 60) #[] #[.pointer (some ⟨w.heap.size, 0, none⟩)]) ∧ w.alloc (.cells #[.int .i64 k, .int .i64 b, .int .i64 r, .int .i64 e0, .int .i64 e1, .int .i64 e2, .string el] 76) = w' := by
  go_enter Tryz.func47, Tryz.ntmps47
  go_wp2
  go_ret
  exact ⟨rfl, rfl⟩
end Go.Proofs.YtjkhjflemcljdaaGreatDoor
