import Derived.Test.YtgimdkgjfenafaaGreatDoorCG04
import Derived.Laws.StructEq
namespace Go.Proofs.YtgimdkgjfenafaaGreatDoor
open Go.RowKit
theorem bytes_eq {a : ByteArray} {l : List UInt8} (h : a.data.toList = l) : a = ⟨l.toArray⟩ := by
 apply ByteArray.ext; apply Array.ext'; rw [h]
theorem arr_zero (w : World) : (Op.equalIn 9999 203 (.agg #[.int .i64 0, .int .i64 0, .int .i64 0]) (.agg #[.int .i64 0, .int .i64 0, .int .i64 0])).run Tryz.prog w = .ok true w := by kernel_rfl
theorem desc_cases (l : List UInt8) : descSpec l = descZero ∨ (¬ descSpec l = descZero ∧ (¬ (descSpec l).k = 0 ∨ ((descSpec l).k = 0 ∧ ¬ (descSpec l).b = 0))) := by
 obtain ⟨hk0, hk4⟩ := kindSpec_range l
 unfold descSpec
 generalize kindSpec l = z at hk0 hk4 ⊢
 obtain ⟨k1, ok, q⟩ := z
 simp only at hk0 hk4 ⊢
 by_cases h60 : 60 < l.length
 ·exact .inl (if_pos h60)
 rw [if_neg h60]
 cases ok
 ·exact .inl (if_pos rfl)
 rw [if_neg (by simp)]
 by_cases h1 : k1 = 1
 ·rw [if_pos h1]
  by_cases hq : q = []
  ·rw [if_pos hq]; exact .inr ⟨fun e => by have := congrArg Desc.k e; simp [descZero] at this, .inl (by simp)⟩
  ·rw [if_neg hq]; exact .inl rfl
 rw [if_neg h1]
 by_cases h2 : k1 = 2 ∨ k1 = 3
 ·rw [if_pos h2]
  split
  ·split
   ·exact .inr ⟨fun e => by have := congrArg Desc.k e; simp [descZero] at this; omega, .inl (by simp; omega)⟩
   ·exact .inl rfl
  ·exact .inl rfl
 rw [if_neg h2]
 by_cases h4 : k1 = 4
 ·rw [if_pos h4]
  split
  ·exact .inr ⟨fun e => by have := congrArg Desc.k e; simp [descZero] at this, .inl (by simp)⟩
  ·exact .inl rfl
 rw [if_neg h4]
 by_cases hn : (numSpec (q.takeWhile bDigit) 1 64).2 = true ∧ q.dropWhile bDigit = []
 ·have hv := numSpec_ok (l := q.takeWhile bDigit) (lo := 1) (hi := 64) (v := (numSpec (q.takeWhile bDigit) 1 64).1) (by rw [← hn.1])
  rw [if_pos hn]
  exact .inr ⟨fun e => by have := congrArg Desc.b e; simp [descZero] at this; omega, .inr ⟨rfl, by simp only; omega⟩⟩
 ·rw [if_neg hn]; exact .inl rfl
def DescribedPost (s : ByteArray) (w : World) (e : Ending) (w' : World) : Prop :=
 Below w.heap.size w w' ∧ ((descSpec s.data.toList = descZero ∧ e = .returned (.tuple #[.agg #[.int .i64 0, .int .i64 0, .int .i64 0, .int .i64 0, .int .i64 0, .int .i64 0, .string ⟨#[]⟩], .int .i64 10])) ∨
  ∃ (k b : Int) (r : Nat) (e0 e1 e2 : Int) (el : ByteArray), descSpec s.data.toList = ⟨k, b, r, e0, e1, e2, el.data.toList⟩ ∧ ¬ (k = 0 ∧ b = 0) ∧
   e = .returned (.tuple #[.agg #[.int .i64 k, .int .i64 b, .int .i64 r, .int .i64 e0, .int .i64 e1, .int .i64 e2, .string el], .int .i64 0]))
theorem read_back {w1 : World} {b : Nat} {v0 v1 v2 v3 v4 v5 v6 u0 u1 u2 u3 u4 u5 u6 : Value} {o : Obj} (h : w1.heap[b]? = some (.cells #[v0, v1, v2, v3, v4, v5, v6] 205 (0, 0))) :
  ((((((((w1.setCell ⟨b, 0, none⟩ u0).setCell ⟨b, 1, none⟩ u1).setCell ⟨b, 2, none⟩ u2).setCell ⟨b, 3, none⟩ u3).setCell ⟨b, 4, none⟩ u4).setCell ⟨b, 5, none⟩ u5).setCell ⟨b, 6, none⟩ u6).alloc o).heap[b]? = some (.cells #[u0, u1, u2, u3, u4, u5, u6] 205 (0, 0)) := by
 have hset := set7_block (u0 := u0) (u1 := u1) (u2 := u2) (u3 := u3) (u4 := u4) (u5 := u5) (u6 := u6) h
 exact (Below.heap_alloc _ _ _ (lt_of_block hset)).trans hset
theorem set7_alloc {B b : Nat} {w0 w : World} {u0 u1 u2 u3 u4 u5 u6 : Value} {o : Obj} (hg : Below B w0 w) (hb : B ≤ b) (hw : B ≤ w0.heap.size) :
  Below B w0 ((((((((w.setCell ⟨b, 0, none⟩ u0).setCell ⟨b, 1, none⟩ u1).setCell ⟨b, 2, none⟩ u2).setCell ⟨b, 3, none⟩ u3).setCell ⟨b, 4, none⟩ u4).setCell ⟨b, 5, none⟩ u5).setCell ⟨b, 6, none⟩ u6).alloc o) := by
 have h := set7_below (u0 := u0) (u1 := u1) (u2 := u2) (u3 := u3) (u4 := u4) (u5 := u5) (u6 := u6) hg hb
 exact h.alloc (Nat.le_trans hw h.size) o
set_option maxHeartbeats 1000000 in
set_option maxRecDepth 100000 in
theorem described_any (s : ByteArray) (w : World) (hE : Env w) :
  Calls Tryz.prog 133 #[.string s] w (DescribedPost s w) := by
 have HZ := Lib.hid (heap_alloc_new w (.cells #[.int .i64 0, .int .i64 0, .int .i64 0, .int .i64 0, .int .i64 0, .int .i64 0, .string ⟨#[]⟩] 205))
 have HB := Lib.hid ((Below.refl w.heap.size w).alloc (Nat.le_refl _) (.cells #[.int .i64 0, .int .i64 0, .int .i64 0, .int .i64 0, .int .i64 0, .int .i64 0, .string ⟨#[]⟩] 205))
 go_enter Tryz.func133, Tryz.ntmps133
 go_wp2_with fail
 refine (read_any s _ (hE.below HB.out)).mono ?_
 rintro e w1 ⟨k, b, r, e0, e1, e2, el, rfl, hd, hb1⟩
 have HB1 := Lib.hid (HB.out.trans (hb1.mono (by simp)))
 have Hr1 := Lib.hid ((hb1.block w.heap.size (by simp)).trans HZ.out)
 have hc := desc_cases s.data.toList
 clear hb1
 have Hd := Lib.hid hd
 rw [hd] at hc
 clear hd
 have hsz1 := lt_of_block Hr1.out
 obtain ⟨c0, c1, c2, c3, c4, c5, c6, hfz⟩ := cells7 Hr1.out
 rcases hc with hc | ⟨hnz, hk | ⟨hk, hb⟩⟩
 ·have haz := arr_zero
  have hz := Lib.hid (Hd.out.trans hc)
  have hel := congrArg Desc.el hc
  obtain rfl : k = 0 := congrArg Desc.k hc
  obtain rfl : b = 0 := congrArg Desc.b hc
  obtain rfl : r = 0 := congrArg Desc.r hc
  obtain rfl : e0 = 0 := congrArg Desc.e0 hc
  obtain rfl : e1 = 0 := congrArg Desc.e1 hc
  obtain rfl : e2 = 0 := congrArg Desc.e2 hc
  obtain rfl : el = ⟨#[]⟩ := bytes_eq hel
  clear hel hc
  go_wp2_with fail
  refine bodyPost_ret (v := .tuple #[.agg #[.int .i64 0, .int .i64 0, .int .i64 0, .int .i64 0, .int .i64 0, .int .i64 0, .string ⟨#[]⟩], .int .i64 10]) (results_cell_tmp Tryz.results133 rfl rfl (descVar (read_back Hr1.out))) rfl ?_
  exact ⟨set7_alloc HB1.out (Nat.le_refl _) (Nat.le_refl _), .inl ⟨hz.out, rfl⟩⟩
 ·clear hnz
  go_wp2_with fail
  refine bodyPost_ret (v := .tuple #[.agg #[.int .i64 k, .int .i64 b, .int .i64 r, .int .i64 e0, .int .i64 e1, .int .i64 e2, .string el], .int .i64 0]) (results_cell_tmp Tryz.results133 rfl rfl (descVar (read_back Hr1.out))) rfl ?_
  exact ⟨set7_alloc HB1.out (Nat.le_refl _) (Nat.le_refl _), .inr ⟨k, b, r, e0, e1, e2, el, Hd.out, fun h => hk h.1, rfl⟩⟩
 ·clear hnz
  have hb' := Lib.hid hb
  obtain rfl : k = 0 := hk
  go_wp2_with fail
  refine bodyPost_ret (v := .tuple #[.agg #[.int .i64 0, .int .i64 b, .int .i64 r, .int .i64 e0, .int .i64 e1, .int .i64 e2, .string el], .int .i64 0]) (results_cell_tmp Tryz.results133 rfl rfl (descVar (read_back Hr1.out))) rfl ?_
  exact ⟨set7_alloc HB1.out (Nat.le_refl _) (Nat.le_refl _), .inr ⟨0, b, r, e0, e1, e2, el, Hd.out, fun h => hb'.out h.2, rfl⟩⟩
theorem loop_wf : ∀ (m : Nat) (l : List UInt8) (r : Nat) (e0 e1 e2 : Int), m + r = 3 → (0 ≤ e0 ∧ e0 ≤ 1000) → (0 ≤ e1 ∧ e1 ≤ 1000) → (0 ≤ e2 ∧ e2 ≤ 1000) → ∀ r' x0 x1 x2 q, shapeLoop m l r e0 e1 e2 = some (r', x0, x1, x2, q) →
  r' ≤ 3 ∧ (0 ≤ x0 ∧ x0 ≤ 1000) ∧ (0 ≤ x1 ∧ x1 ≤ 1000) ∧ (0 ≤ x2 ∧ x2 ≤ 1000) := by
 intro m
 induction m with
 | zero =>
  intro l r e0 e1 e2 hm h0 h1 h2 r' x0 x1 x2 q h
  unfold shapeLoop at h
  split at h
  ·cases h; exact ⟨by omega, h0, h1, h2⟩
  ·split at h
   ·cases h
   ·split at h
    ·cases h
    ·cases h
 | succ m ih =>
  intro l r e0 e1 e2 hm h0 h1 h2 r' x0 x1 x2 q h
  unfold shapeLoop at h
  split at h
  ·cases h; exact ⟨by omega, h0, h1, h2⟩
  ·split at h
   ·cases h
   ·split at h
    ·cases h
    ·rename_i hn _
     have hv := numSpec_ok (l := l.takeWhile bDigit) (lo := 0) (hi := 1000) (v := (numSpec (l.takeWhile bDigit) 0 1000).1) (by simp at hn; rw [← hn])
     exact ih _ _ _ _ _ (by omega) (by split <;> assumption) (by split <;> assumption) (by split <;> assumption) _ _ _ _ _ h
theorem shape_wf {l : List UInt8} {r : Nat} {e0 e1 e2 : Int} {el q : List UInt8} (h : shapeSpec l = some (r, e0, e1, e2, el, q)) : r ≤ 3 ∧ (0 ≤ e0 ∧ e0 ≤ 1000) ∧ (0 ≤ e1 ∧ e1 ≤ 1000) ∧ (0 ≤ e2 ∧ e2 ≤ 1000) ∧ prodN r e0 e1 e2 ≤ 4096 ∧ numB el = true := by
 unfold shapeSpec at h
 split at h
 ·cases h
 ·split at h
  ·cases h
  ·rename_i hl
   have := loop_wf 3 _ 0 0 0 0 rfl (by omega) (by omega) (by omega) _ _ _ _ _ hl
   split at h
   ·cases h
   ·split at h
    ·cases h
    ·split at h
     ·rename_i hn _ hp
      cases h
      exact ⟨this.1, this.2.1, this.2.2.1, this.2.2.2, hp, by simpa using hn⟩
     ·cases h
theorem desc_wf {l : List UInt8} {k b : Int} {r : Nat} {e0 e1 e2 : Int} {el : List UInt8} (h : descSpec l = ⟨k, b, r, e0, e1, e2, el⟩) :
  (0 ≤ k ∧ k ≤ 4) ∧ (0 ≤ b ∧ b ≤ 64) ∧ r ≤ 3 ∧ (0 ≤ e0 ∧ e0 ≤ 1000) ∧ (0 ≤ e1 ∧ e1 ≤ 1000) ∧ (0 ≤ e2 ∧ e2 ≤ 1000) ∧
   ((k = 2 ∨ k = 3) → b = 0 ∧ prodN r e0 e1 e2 ≤ 4096 ∧ numB el = true) ∧ (¬ (k = 2 ∨ k = 3) → r = 0 ∧ e0 = 0 ∧ e1 = 0 ∧ e2 = 0 ∧ el = []) := by
 have hz : ∀ {d : Desc}, descZero = d → d = ⟨k, b, r, e0, e1, e2, el⟩ → (0 ≤ k ∧ k ≤ 4) ∧ (0 ≤ b ∧ b ≤ 64) ∧ r ≤ 3 ∧ (0 ≤ e0 ∧ e0 ≤ 1000) ∧ (0 ≤ e1 ∧ e1 ≤ 1000) ∧ (0 ≤ e2 ∧ e2 ≤ 1000) ∧
   ((k = 2 ∨ k = 3) → b = 0 ∧ prodN r e0 e1 e2 ≤ 4096 ∧ numB el = true) ∧ (¬ (k = 2 ∨ k = 3) → r = 0 ∧ e0 = 0 ∧ e1 = 0 ∧ e2 = 0 ∧ el = []) := by
  intro d hd he
  subst hd
  cases he
  exact ⟨by omega, by omega, by omega, by omega, by omega, by omega, fun h => by omega, fun _ => ⟨rfl, rfl, rfl, rfl, rfl⟩⟩
 obtain ⟨hk0, hk4⟩ := kindSpec_range l
 unfold descSpec at h
 generalize kindSpec l = z at hk0 hk4 h
 obtain ⟨k1, ok, q⟩ := z
 simp only at hk0 hk4 h
 split at h
 ·exact hz rfl h
 split at h
 ·exact hz rfl h
 split at h
 ·split at h
  ·cases h
   exact ⟨by omega, by omega, by omega, by omega, by omega, by omega, fun h => by omega, fun _ => ⟨rfl, rfl, rfl, rfl, rfl⟩⟩
  ·exact hz rfl h
 split at h
 ·rename_i h23
  split at h
  ·rename_i hs
   have := shape_wf hs
   split at h
   ·cases h
    exact ⟨by omega, by omega, this.1, this.2.1, this.2.2.1, this.2.2.2.1, fun _ => ⟨rfl, this.2.2.2.2.1, this.2.2.2.2.2⟩, fun h => absurd h23 h⟩
   ·exact hz rfl h
  ·exact hz rfl h
 split at h
 ·split at h
  ·cases h
   exact ⟨by omega, by omega, by omega, by omega, by omega, by omega, fun h => by omega, fun _ => ⟨rfl, rfl, rfl, rfl, rfl⟩⟩
  ·exact hz rfl h
 split at h
 ·rename_i hn
  have hv := numSpec_ok (l := q.takeWhile bDigit) (lo := 1) (hi := 64) (v := (numSpec (q.takeWhile bDigit) 1 64).1) (by rw [← hn.1])
  cases h
  exact ⟨by omega, by omega, by omega, by omega, by omega, by omega, fun h => by omega, fun _ => ⟨rfl, rfl, rfl, rfl, rfl⟩⟩
 ·exact hz rfl h
end Go.Proofs.YtgimdkgjfenafaaGreatDoor
namespace Go.Proofs.YtgimdkgjfenafaaGreatDoor
open Go.RowKit
theorem desc_el {k b : Int} {r : Nat} {e0 e1 e2 : Int} {el el' : ByteArray} {k' b' : Int} {r' : Nat} {x0 x1 x2 : Int} {l : List UInt8} (h : descSpec l = ⟨k, b, r, e0, e1, e2, el.data.toList⟩) (h' : descSpec l = ⟨k', b', r', x0, x1, x2, el'.data.toList⟩) :
  k = k' ∧ b = b' ∧ r = r' ∧ e0 = x0 ∧ e1 = x1 ∧ e2 = x2 ∧ el = el' := by
 have e := h.symm.trans h'
 injection e with a1 a2 a3 a4 a5 a6 a7
 exact ⟨a1, a2, a3, a4, a5, a6, by apply ByteArray.ext; exact Array.ext' a7⟩
def NoTy (s : ByteArray) : Prop := descSpec s.data.toList = descZero
structure Ty (s : ByteArray) (k b : Int) (r : Nat) (e0 e1 e2 : Int) (el : ByteArray) : Prop where
 is : descSpec s.data.toList = ⟨k, b, r, e0, e1, e2, el.data.toList⟩
 nz : ¬ (k = 0 ∧ b = 0)
theorem described_no (s : ByteArray) (h : NoTy s) (w : World) (hE : Env w) :
  Calls Tryz.prog 133 #[.string s] w fun e w' => e = .returned (.tuple #[.agg #[.int .i64 0, .int .i64 0, .int .i64 0, .int .i64 0, .int .i64 0, .int .i64 0, .string ⟨#[]⟩], .int .i64 10]) ∧ Below w.heap.size w w' :=
 (described_any s w hE).mono fun e w' ⟨hb, hp⟩ => by
  rcases hp with ⟨_, he⟩ | ⟨k, b, r, e0, e1, e2, el, hd, hn, he⟩
  ·exact ⟨he, hb⟩
  ·have := h.symm.trans hd
   injection this with a1 a2
   exact absurd ⟨a1.symm, a2.symm⟩ hn
section
variable {s el : ByteArray} {k b e0 e1 e2 : Int} {r : Nat}
theorem described_yes (h : Ty s k b r e0 e1 e2 el) (w : World) (hE : Env w) :
  Calls Tryz.prog 133 #[.string s] w fun e w' => e = .returned (.tuple #[.agg #[.int .i64 k, .int .i64 b, .int .i64 r, .int .i64 e0, .int .i64 e1, .int .i64 e2, .string el], .int .i64 0]) ∧ Below w.heap.size w w' :=
 (described_any s w hE).mono fun e w' ⟨hb, hp⟩ => by
  rcases hp with ⟨hz, _⟩ | ⟨k', b', r', x0, x1, x2, el', hd, hn, he⟩
  ·have := h.is.symm.trans hz
   injection this with a1 a2
   exact absurd ⟨a1, a2⟩ h.nz
  ·obtain ⟨rfl, rfl, rfl, rfl, rfl, rfl, rfl⟩ := desc_el h.is hd
   exact ⟨he, hb⟩
set_option maxHeartbeats 400000 in
set_option maxRecDepth 100000 in
theorem Check_no (h : NoTy s) (w : World) (hE : Env w) :
  Calls Tryz.prog 84 #[.string s] w fun e w' => e = .returned (.int .i64 10) ∧ Below w.heap.size w w' := by
 have hE' := Lib.hid hE
 clear hE
 go_enter Tryz.func84, Tryz.ntmps84
 go_wp2_with fail
 refine (described_no s h _ hE'.out).mono ?_
 rintro e w1 ⟨rfl, hb1⟩
 have HB1 := Lib.hid hb1
 clear hb1
 go_wp2_with fail
 go_ret
 exact ⟨rfl, HB1.out.alloc HB1.out.size _⟩
set_option maxHeartbeats 400000 in
set_option maxRecDepth 100000 in
theorem Check_yes (h : Ty s k b r e0 e1 e2 el) (w : World) (hE : Env w) :
  Calls Tryz.prog 84 #[.string s] w fun e w' => e = .returned (.int .i64 0) ∧ Below w.heap.size w w' := by
 have hE' := Lib.hid hE
 clear hE
 go_enter Tryz.func84, Tryz.ntmps84
 go_wp2_with fail
 refine (described_yes h _ hE'.out).mono ?_
 rintro e w1 ⟨rfl, hb1⟩
 have HB1 := Lib.hid hb1
 clear hb1
 go_wp2_with fail
 go_ret
 exact ⟨rfl, HB1.out.alloc HB1.out.size _⟩
set_option maxHeartbeats 400000 in
set_option maxRecDepth 100000 in
theorem KindOf_no (h : NoTy s) (w : World) (hE : Env w) :
  Calls Tryz.prog 135 #[.string s] w fun e w' => e = .returned (.tuple #[.int .i64 0, .int .i64 10]) ∧ Below w.heap.size w w' := by
 have hE' := Lib.hid hE
 clear hE
 go_enter Tryz.func135, Tryz.ntmps135
 go_wp2_with fail
 refine (described_no s h _ hE'.out).mono ?_
 rintro e w1 ⟨rfl, hb1⟩
 have HB1 := Lib.hid hb1
 clear hb1
 go_wp2_with fail
 go_ret2
 exact ⟨rfl, HB1.out.alloc HB1.out.size _⟩
set_option maxHeartbeats 400000 in
set_option maxRecDepth 100000 in
theorem KindOf_yes (h : Ty s k b r e0 e1 e2 el) (w : World) (hE : Env w) :
  Calls Tryz.prog 135 #[.string s] w fun e w' => e = .returned (.tuple #[.int .i64 k, .int .i64 0]) ∧ Below w.heap.size w w' := by
 have hE' := Lib.hid hE
 clear hE
 go_enter Tryz.func135, Tryz.ntmps135
 go_wp2_with fail
 refine (described_yes h _ hE'.out).mono ?_
 rintro e w1 ⟨rfl, hb1⟩
 have HB1 := Lib.hid hb1
 clear hb1
 go_wp2_with fail
 go_ret2
 exact ⟨rfl, HB1.out.alloc HB1.out.size _⟩
end
end Go.Proofs.YtgimdkgjfenafaaGreatDoor
