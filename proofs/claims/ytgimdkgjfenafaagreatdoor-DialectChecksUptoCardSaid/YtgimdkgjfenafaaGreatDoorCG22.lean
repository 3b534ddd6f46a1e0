import Derived.Test.YtgimdkgjfenafaaGreatDoorCG21
import Derived.Test.YtgimdkgjfenafaaGreatDoorCG10
import Derived.Test.YtgimdkgjfenafaaGreatDoorCG14
import Derived.Test.YtgimdkgjfenafaaGreatDoorCG15
import Derived.Laws.RangeAny
import Derived.RegionTactic
import Derived.BigRegion
import Derived.Test.YtgimdkgjfenafaaGreatDoorCG16
import Derived.Laws.StructEq
import Derived.Test.YtgimdkgjfenafaaGreatDoorCG05
import Derived.Test.YtgimdkgjfenafaaGreatDoorCG11
namespace Go.Proofs.YtgimdkgjfenafaaGreatDoor
open Go.RowKit
theorem set2_block {w : World} {b : Nat} {T : TypeId} {v0 v1 u0 u1 : Value} (h : w.heap[b]? = some (.cells #[v0, v1] T (0, 0))) :
  ((w.setCell ⟨b, 0, none⟩ u0).setCell ⟨b, 1, none⟩ u1).heap[b]? = some (.cells #[u0, u1] T (0, 0)) := by
 have h0 := heap_setCell_same _ b 0 _ T u0 h
 have h1 := heap_setCell_same _ b 1 _ T u1 h0
 rw [h1]
 rfl
theorem below_set2 {B : Nat} {w W : World} (h : Below B w W) {b : Nat} (hb : B ≤ b) {u0 u1 : Value} : Below B w ((W.setCell ⟨b, 0, none⟩ u0).setCell ⟨b, 1, none⟩ u1) :=
 (h.setCell (p := ⟨b, 0, none⟩) hb _).setCell (p := ⟨b, 1, none⟩) hb _
theorem cells2 {w : World} {b : Nat} {T : TypeId} {v0 v1 : Value} (h : w.heap[b]? = some (.cells #[v0, v1] T (0, 0))) :
  w.cell? ⟨b, 0, none⟩ = some v0 ∧ w.cell? ⟨b, 1, none⟩ = some v1 ∧ ∀ j, w.frozen? ⟨b, j, none⟩ = false := by
 refine ⟨?_, ?_, fun j => ?_⟩ <;> simp [World.cell?, World.frozen?, h]
theorem find_next {α : Type} {p : α → Bool} {l : List α} {m : Nat} {x : α} (h : ∀ j, j < m → ∀ y, l[j]? = some y → p y = false) (hx : l[m]? = some x) (hp : p x = false) : ∀ j, j < m + 1 → ∀ y, l[j]? = some y → p y = false := by
 intro j hj y hy
 rcases Nat.lt_or_ge j m with hlt | hge
 ·exact h j hlt y hy
 ·obtain rfl : j = m := by omega
  rw [hx] at hy
  cases hy
  exact hp
theorem find_at {α : Type} {p : α → Bool} {l : List α} {m : Nat} {x : α} (h : ∀ j, j < m → ∀ y, l[j]? = some y → p y = false) (hx : l[m]? = some x) (hp : p x = true) : l.find? p = some x := by
 induction l generalizing m with
 | nil => cases hx
 | cons a l ih =>
  cases m with
  | zero =>
   obtain rfl : a = x := Option.some.inj hx
   rw [List.find?_cons_of_pos hp]
  | succ m =>
   rw [List.find?_cons_of_neg (by rw [h 0 (Nat.zero_lt_succ _) a rfl]; decide)]
   exact ih (m := m) (fun j hj y hy => h (j + 1) (by omega) y hy) hx
theorem find_no {α : Type} {p : α → Bool} {l : List α} (h : ∀ j, j < l.length → ∀ y, l[j]? = some y → p y = false) : l.find? p = none := by
 refine List.find?_eq_none.2 fun x hx => ?_
 obtain ⟨j, hj, e⟩ := List.getElem_of_mem hx
 rw [h j hj x (by rw [List.getElem?_eq_getElem hj, e])]
 decide
theorem pdefVar {w : World} {b : Nat} {v0 v1 v2 v3 v4 v5 v6 : Value} (h : w.heap[b]? = some (.cells #[v0, v1, v2, v3, v4, v5, v6] 36 (0, 0))) :
  (loadVar 36 ⟨b, 0, none⟩).run Tryz.prog w = .ok (.agg #[v0, v1, v2, v3, v4, v5, v6]) w :=
 run_loadVar_row w b _ _ _ _ _ h Tryz.underlying36 rfl (by kernel_rfl)
def SearchDef (es : List DEl) (s : ByteArray) (w : World) (e : Ending) (w' : World) : Prop := Below w.heap.size w w' ∧
 ((∃ x, es.find? (fun y : DEl => y.d.name.toList == s.toList) = some x ∧ e = .returned (.tuple #[.agg #[.string x.d.name, .slice x.io x.d.ins.length x.ic, .slice x.oo x.d.outs.length x.oc, .slice x.no x.d.needs.length x.nc, .int .i64 x.d.regions, .int .i64 x.d.succs, .slice x.ko x.d.traits.length x.kc], .bool true])) ∨ (es.find? (fun y : DEl => y.d.name.toList == s.toList) = none ∧ e = .returned (.tuple #[.agg #[.string ⟨#[]⟩, .slice none 0 0, .slice none 0 0, .slice none 0 0, .int .i64 0, .int .i64 0, .slice none 0 0], .bool false])))
set_option maxHeartbeats 4000000 in
set_option maxRecDepth 100000 in
theorem searchDef_any (ao : Option Addr) (es : List DEl) (c : Nat) (s : ByteArray) (hn : es.length ≤ 9223372036854775807) (w : World) (h : RowIs w ao es.length (es.flatMap DEl.cells)) :
  Calls Tryz.prog 79 #[.slice ao es.length c, .string s, .func (.func 80) #[] #[]] w (SearchDef es s w) := by
 obtain ⟨W1, hW1⟩ : ∃ W1, W1 = w.alloc (.cells #[.string ⟨#[]⟩, .slice none 0 0, .slice none 0 0, .slice none 0 0, .int .i64 0, .int .i64 0, .slice none 0 0] 36) := ⟨_, rfl⟩
 have T1 : Hid (W1.heap[w.heap.size]? = some (.cells #[.string ⟨#[]⟩, .slice none 0 0, .slice none 0 0, .slice none 0 0, .int .i64 0, .int .i64 0, .slice none 0 0] 36 (0, 0))) := by
  show W1.heap[w.heap.size]? = _
  rw [hW1]
  exact heap_alloc_new _ _
 have B1 : Hid (Below w.heap.size w W1 ∧ w.heap.size < W1.heap.size) := by
  show Below _ _ _ ∧ _
  rw [hW1]
  exact ⟨(Below.refl _ w).alloc (Nat.le_refl _) _, by simp⟩
 have H := Lib.hid (RowIs.below h B1.out.1)
 have hni : (es.length : Int) ≤ 9223372036854775807 := by omega
 clear h hn
 go_enter Tryz.func79, Tryz.ntmps79
 go_upto_block 0 with fail
 rw [← hW1]
 clear hW1
 go_wp2_with fail
 go_loopw [12] (fun i wr => ∃ m : Nat, m ≤ es.length ∧ i = .int .i64 m ∧ Hid ((∀ j, j < m → ∀ y, es[j]? = some y → (fun y : DEl => y.d.name.toList == s.toList) y = false) ∧ Below W1.heap.size W1 wr)) (fun i _ => es.length - (intOf i).toNat)
 case atStart => exact ⟨0, Nat.zero_le _, rfl, fun j hj => absurd hj (Nat.not_lt_zero _), Below.refl _ _⟩
 case round =>
  obtain ⟨m, hm, rfl, HA⟩ := hrel
  by_cases hlt : m < es.length
  rotate_left
  ·have hge : ¬ (m : Int) < (es.length : Int) := by omega
   have HN := Lib.hid (find_no (l := es) (p := (fun y : DEl => y.d.name.toList == s.toList)) fun j hj => HA.out.1 j (by omega))
   have T2 := Lib.hid ((HA.out.2.block _ (lt_of_block T1.out)).trans T1.out)
   obtain ⟨c0, c1, c2, c3, c4, c5, c6, cf⟩ := dcells7 T2.out
   clear hlt hm
   go_wp2_with fail
   refine bodyPost_ret (v := .tuple #[.agg #[.string ⟨#[]⟩, .slice none 0 0, .slice none 0 0, .slice none 0 0, .int .i64 0, .int .i64 0, .slice none 0 0], .bool false]) (results_cell_tmp Tryz.results79 rfl rfl (pdefVar (dset7_block T2.out))) rfl ?_
   exact ⟨dbelow_set7 (B1.out.1.trans (HA.out.2.mono B1.out.1.size)) (Nat.le_refl _), .inr ⟨HN.out, rfl⟩⟩
  have hlti : (m : Int) < (es.length : Int) := by omega
  have hg := List.getElem?_eq_getElem hlt
  generalize es[m]'hlt = x at hg
  obtain ⟨bk, o, rfl, hx⟩ := RowIs.at del_len (H.out.below HA.out.2) hg
  have k0 : wr.cell? ⟨bk, o + m * 7, none⟩ = some (.string x.d.name) := hx 0 _ rfl
  have k1 : wr.cell? ⟨bk, o + m * 7 + 1, none⟩ = some (.slice x.io x.d.ins.length x.ic) := hx 1 _ rfl
  have k2 : wr.cell? ⟨bk, o + m * 7 + 2, none⟩ = some (.slice x.oo x.d.outs.length x.oc) := hx 2 _ rfl
  have k3 : wr.cell? ⟨bk, o + m * 7 + 3, none⟩ = some (.slice x.no x.d.needs.length x.nc) := hx 3 _ rfl
  have k4 : wr.cell? ⟨bk, o + m * 7 + 4, none⟩ = some (.int .i64 x.d.regions) := hx 4 _ rfl
  have k5 : wr.cell? ⟨bk, o + m * 7 + 5, none⟩ = some (.int .i64 x.d.succs) := hx 5 _ rfl
  have k6 : wr.cell? ⟨bk, o + m * 7 + 6, none⟩ = some (.slice x.ko x.d.traits.length x.kc) := hx 6 _ rfl
  have HG := Lib.hid hg
  have HLT := Lib.hid hlt
  clear hx hg hlt hm
  go_upto_region 4 with fail
  clear k0 k1 k2 k3 k4 k5 k6
  have HNB := Lib.hid (new_below wr (.cells #[.string x.d.name, .slice x.io x.d.ins.length x.ic, .slice x.oo x.d.outs.length x.oc, .slice x.no x.d.needs.length x.nc, .int .i64 x.d.regions, .int .i64 x.d.succs, .slice x.ko x.d.traits.length x.kc] 36))
  have HT := Lib.hid (heap_alloc_new wr (.cells #[.string x.d.name, .slice x.io x.d.ins.length x.ic, .slice x.oo x.d.outs.length x.oc, .slice x.no x.d.needs.length x.nc, .int .i64 x.d.regions, .int .i64 x.d.succs, .slice x.ko x.d.traits.length x.kc] 36))
  generalize wr.alloc (.cells #[.string x.d.name, .slice x.io x.d.ins.length x.ic, .slice x.oo x.d.outs.length x.oc, .slice x.no x.d.needs.length x.nc, .int .i64 x.d.regions, .int .i64 x.d.succs, .slice x.ko x.d.traits.length x.kc] 36) = W3 at HNB HT ⊢
  have HDL := Lib.hid HA.out.2.size
  generalize hD : wr.heap.size = D at HT HNB HDL ⊢
  clear hD
  obtain ⟨d0, d1, d2, d3, d4, d5, d6, df⟩ := dcells7 HT.out
  go_wp2_with fail
  refine (nameOfDef_any _ _ _ _ _ _ _ W3).mono ?_
  rintro e w4 ⟨rfl, hb⟩
  have HT4 := Lib.hid ((hb.block _ (lt_of_block HT.out)).trans HT.out)
  have HB4 := Lib.hid (show Below W1.heap.size W1 w4 from (HA.out.2.trans (HNB.out.mono HDL.out)).trans (hb.mono (Nat.le_trans HA.out.2.size HNB.out.size)))
  clear d0 d1 d2 d3 d4 d5 d6 df hb
  cases heq : (x.d.name.toList == s.toList)
  ·have HF := Lib.hid (find_next HA.out.1 HG.out heq)
   go_wp2_with fail
   go_roundw
   case rel => exact ⟨m + 1, HLT.out, by go_num, HF.out, HB4.out⟩
   case measure => have := HLT.out; simp only [intOf]; omega
  ·have HF := Lib.hid (find_at HA.out.1 HG.out heq)
   have T2 := Lib.hid ((HB4.out.block _ (lt_of_block T1.out)).trans T1.out)
   obtain ⟨c0, c1, c2, c3, c4, c5, c6, cf⟩ := dcells7 T2.out
   obtain ⟨d0, d1, d2, d3, d4, d5, d6, df⟩ := dcells7 HT4.out
   go_wp2_with fail
   refine bodyPost_ret (v := .tuple #[.agg #[.string x.d.name, .slice x.io x.d.ins.length x.ic, .slice x.oo x.d.outs.length x.oc, .slice x.no x.d.needs.length x.nc, .int .i64 x.d.regions, .int .i64 x.d.succs, .slice x.ko x.d.traits.length x.kc], .bool true]) (results_cell_tmp Tryz.results79 rfl rfl (pdefVar (dset7_block T2.out))) rfl ?_
   exact ⟨dbelow_set7 (B1.out.1.trans (HB4.out.mono B1.out.1.size)) (Nat.le_refl _), .inl ⟨x, HF.out, rfl⟩⟩
def SearchDialect (es : List XEl) (s : ByteArray) (w : World) (e : Ending) (w' : World) : Prop := Below w.heap.size w w' ∧
 ((∃ x, es.find? (fun y : XEl => y.name.toList == s.toList) = some x ∧ e = .returned (.tuple #[.agg #[.string x.name, .slice x.yo x.types.length x.yc, .slice x.po x.ops.length x.pc], .bool true])) ∨ (es.find? (fun y : XEl => y.name.toList == s.toList) = none ∧ e = .returned (.tuple #[.agg #[.string ⟨#[]⟩, .slice none 0 0, .slice none 0 0], .bool false])))
set_option maxHeartbeats 4000000 in
set_option maxRecDepth 100000 in
theorem searchDialect_any (ao : Option Addr) (es : List XEl) (c : Nat) (s : ByteArray) (hn : es.length ≤ 9223372036854775807) (w : World) (h : RowIs w ao es.length (es.flatMap XEl.cells)) :
  Calls Tryz.prog 78 #[.slice ao es.length c, .string s, .func (.func 69) #[] #[]] w (SearchDialect es s w) := by
 obtain ⟨W1, hW1⟩ : ∃ W1, W1 = w.alloc (.cells #[.string ⟨#[]⟩, .slice none 0 0, .slice none 0 0] 90) := ⟨_, rfl⟩
 have T1 : Hid (W1.heap[w.heap.size]? = some (.cells #[.string ⟨#[]⟩, .slice none 0 0, .slice none 0 0] 90 (0, 0))) := by
  show W1.heap[w.heap.size]? = _
  rw [hW1]
  exact heap_alloc_new _ _
 have B1 : Hid (Below w.heap.size w W1 ∧ w.heap.size < W1.heap.size) := by
  show Below _ _ _ ∧ _
  rw [hW1]
  exact ⟨(Below.refl _ w).alloc (Nat.le_refl _) _, by simp⟩
 have H := Lib.hid (RowIs.below h B1.out.1)
 have hni : (es.length : Int) ≤ 9223372036854775807 := by omega
 clear h hn
 go_enter Tryz.func78, Tryz.ntmps78
 go_upto_block 0 with fail
 rw [← hW1]
 clear hW1
 go_wp2_with fail
 go_loopw [12] (fun i wr => ∃ m : Nat, m ≤ es.length ∧ i = .int .i64 m ∧ Hid ((∀ j, j < m → ∀ y, es[j]? = some y → (fun y : XEl => y.name.toList == s.toList) y = false) ∧ Below W1.heap.size W1 wr)) (fun i _ => es.length - (intOf i).toNat)
 case atStart => exact ⟨0, Nat.zero_le _, rfl, fun j hj => absurd hj (Nat.not_lt_zero _), Below.refl _ _⟩
 case round =>
  obtain ⟨m, hm, rfl, HA⟩ := hrel
  by_cases hlt : m < es.length
  rotate_left
  ·have hge : ¬ (m : Int) < (es.length : Int) := by omega
   have HN := Lib.hid (find_no (l := es) (p := (fun y : XEl => y.name.toList == s.toList)) fun j hj => HA.out.1 j (by omega))
   have T2 := Lib.hid ((HA.out.2.block _ (lt_of_block T1.out)).trans T1.out)
   obtain ⟨c0, c1, c2, cf⟩ := cells3 T2.out
   clear hlt hm
   go_wp2_with fail
   refine bodyPost_ret (v := .tuple #[.agg #[.string ⟨#[]⟩, .slice none 0 0, .slice none 0 0], .bool false]) (results_cell_tmp Tryz.results78 rfl rfl (diaVar (set3_block T2.out))) rfl ?_
   exact ⟨below_set3 (B1.out.1.trans (HA.out.2.mono B1.out.1.size)) (Nat.le_refl _), .inr ⟨HN.out, rfl⟩⟩
  have hlti : (m : Int) < (es.length : Int) := by omega
  have hg := List.getElem?_eq_getElem hlt
  generalize es[m]'hlt = x at hg
  obtain ⟨bk, o, rfl, hx⟩ := RowIs.at xel_len (H.out.below HA.out.2) hg
  have k0 : wr.cell? ⟨bk, o + m * 3, none⟩ = some (.string x.name) := hx 0 _ rfl
  have k1 : wr.cell? ⟨bk, o + m * 3 + 1, none⟩ = some (.slice x.yo x.types.length x.yc) := hx 1 _ rfl
  have k2 : wr.cell? ⟨bk, o + m * 3 + 2, none⟩ = some (.slice x.po x.ops.length x.pc) := hx 2 _ rfl
  have HG := Lib.hid hg
  have HLT := Lib.hid hlt
  clear hx hg hlt hm
  go_upto_region 4 with fail
  clear k0 k1 k2
  have HNB := Lib.hid (new_below wr (.cells #[.string x.name, .slice x.yo x.types.length x.yc, .slice x.po x.ops.length x.pc] 90))
  have HT := Lib.hid (heap_alloc_new wr (.cells #[.string x.name, .slice x.yo x.types.length x.yc, .slice x.po x.ops.length x.pc] 90))
  generalize wr.alloc (.cells #[.string x.name, .slice x.yo x.types.length x.yc, .slice x.po x.ops.length x.pc] 90) = W3 at HNB HT ⊢
  have HDL := Lib.hid HA.out.2.size
  generalize hD : wr.heap.size = D at HT HNB HDL ⊢
  clear hD
  obtain ⟨d0, d1, d2, df⟩ := cells3 HT.out
  go_wp2_with fail
  refine (nameOfDialect_any _ _ _ W3).mono ?_
  rintro e w4 ⟨rfl, hb⟩
  have HT4 := Lib.hid ((hb.block _ (lt_of_block HT.out)).trans HT.out)
  have HB4 := Lib.hid (show Below W1.heap.size W1 w4 from (HA.out.2.trans (HNB.out.mono HDL.out)).trans (hb.mono (Nat.le_trans HA.out.2.size HNB.out.size)))
  clear d0 d1 d2 df hb
  cases heq : (x.name.toList == s.toList)
  ·have HF := Lib.hid (find_next HA.out.1 HG.out heq)
   go_wp2_with fail
   go_roundw
   case rel => exact ⟨m + 1, HLT.out, by go_num, HF.out, HB4.out⟩
   case measure => have := HLT.out; simp only [intOf]; omega
  ·have HF := Lib.hid (find_at HA.out.1 HG.out heq)
   have T2 := Lib.hid ((HB4.out.block _ (lt_of_block T1.out)).trans T1.out)
   obtain ⟨c0, c1, c2, cf⟩ := cells3 T2.out
   obtain ⟨d0, d1, d2, df⟩ := cells3 HT4.out
   go_wp2_with fail
   refine bodyPost_ret (v := .tuple #[.agg #[.string x.name, .slice x.yo x.types.length x.yc, .slice x.po x.ops.length x.pc], .bool true]) (results_cell_tmp Tryz.results78 rfl rfl (diaVar (set3_block T2.out))) rfl ?_
   exact ⟨below_set3 (B1.out.1.trans (HB4.out.mono B1.out.1.size)) (Nat.le_refl _), .inl ⟨x, HF.out, rfl⟩⟩
end Go.Proofs.YtgimdkgjfenafaaGreatDoor
namespace Go.Proofs.YtgimdkgjfenafaaGreatDoor
open Go.RowKit
def letAt (s : ByteArray) (z : Int) : Bool := if z < 0 then false else match s.data.toList[z.toNat]? with
 | some c => isL c
 | none => false
def isoAt (s : ByteArray) (i : Nat) : Bool := letAt s i && !letAt s ((i : Int) - 1) && !letAt s ((i : Int) + 1)
theorem letAt_neg {s : ByteArray} {z : Int} (h : z < 0) : letAt s z = false := by unfold letAt; rw [if_pos h]
theorem letAt_out {s : ByteArray} {z : Int} (h : (s.size : Int) ≤ z) : letAt s z = false := by
 unfold letAt
 rw [if_neg (by omega), List.getElem?_eq_none (by rw [← size_eq]; omega)]
theorem letAt_in {s : ByteArray} {m : Nat} (h : m < s.size) : letAt s (m : Int) = isL (s[m]'h) := by
 unfold letAt
 rw [if_neg (by omega), Int.toNat_natCast, List.getElem?_eq_getElem (by rw [← size_eq]; exact h)]
 rfl
theorem decode_skip (s : ByteArray) (i : Nat) (h : i < s.size) : i + (Utf8.decode s i).2 ≤ s.size ∧ ∀ j, i < j → j < i + (Utf8.decode s i).2 → ∃ hj : j < s.size, 128 ≤ (s[j]'hj).toNat := by
 have cont : ∀ k, (decide (i + k < s.size) = true ∧ ((s.get! (i + k)).toNat / 64 == 2) = true) → ∃ hj : i + k < s.size, 128 ≤ (s[i + k]'hj).toNat := fun k hk => by
  simp only [decide_eq_true_eq, beq_iff_eq] at hk
  refine ⟨hk.1, ?_⟩
  have h2 := hk.2
  have e : s.get! (i + k) = s[i + k]'hk.1 := by
   have hk1 := hk.1
   show s.data[i + k]! = s.data[i + k]'hk1
   exact getElem!_pos s.data (i + k) hk1
  rw [e] at h2
  omega
 have one : i + 1 ≤ s.size ∧ ∀ j, i < j → j < i + 1 → ∃ hj : j < s.size, 128 ≤ (s[j]'hj).toNat := ⟨h, fun j h1 h2 => by omega⟩
 unfold Utf8.decode
 simp only []
 split
 ·exact one
 ·split
  ·rename_i h2
   simp only [Bool.and_eq_true] at h2
   split
   ·obtain ⟨k1, k2⟩ := cont 1 h2.2
    exact ⟨by show i + 2 ≤ _; omega, fun j h3 h4 => by
     have h5 : j < i + 2 := h4
     obtain rfl : j = i + 1 := by omega
     exact ⟨k1, k2⟩⟩
   ·exact one
  ·split
   ·rename_i h2
    simp only [Bool.and_eq_true] at h2
    split
    ·obtain ⟨k1, k2⟩ := cont 1 h2.1.2
     obtain ⟨k3, k4⟩ := cont 2 h2.2
     exact ⟨by show i + 3 ≤ _; omega, fun j h3 h4 => by
      have h5 : j < i + 3 := h4
      by_cases e : j = i + 1
      ·subst e; exact ⟨k1, k2⟩
      ·obtain rfl : j = i + 2 := by omega
       exact ⟨k3, k4⟩⟩
    ·exact one
   ·split
    ·rename_i h2
     simp only [Bool.and_eq_true] at h2
     split
     ·obtain ⟨k1, k2⟩ := cont 1 h2.1.1.2
      obtain ⟨k3, k4⟩ := cont 2 h2.1.2
      obtain ⟨k5, k6⟩ := cont 3 h2.2
      exact ⟨by show i + 4 ≤ _; omega, fun j h3 h4 => by
       have h5 : j < i + 4 := h4
       by_cases e : j = i + 1
       ·subst e; exact ⟨k1, k2⟩
       ·by_cases e2 : j = i + 2
        ·subst e2; exact ⟨k3, k4⟩
        ·obtain rfl : j = i + 3 := by omega
         exact ⟨k5, k6⟩⟩
     ·exact one
    ·exact one
theorem isL_high {c : UInt8} (h : 128 ≤ c.toNat) : isL c = false := by unfold isL; rw [decide_eq_false (p := c.toNat ≤ 122) (by omega), Bool.and_false]
theorem iso_high {s : ByteArray} {j : Nat} (hj : j < s.size) (h : 128 ≤ (s[j]'hj).toNat) : isoAt s j = false := by unfold isoAt; rw [letAt_in hj, isL_high h]; rfl
set_option maxHeartbeats 1000000 in
set_option maxRecDepth 100000 in
theorem letAt_any (s : ByteArray) (hs : s.size ≤ 9223372036854775806) (z : Int) (h0 : -1 ≤ z) (h1 : z ≤ 9223372036854775806) (tb : Nat) (T : TypeId) (w : World) (ht : w.heap[tb]? = some (.cells #[.string s] T (0, 0))) :
  Calls Tryz.prog 195 #[.int .i64 z, .pointer (some ⟨tb, 0, none⟩)] w fun e w' => e = .returned (.bool (letAt s z)) ∧ w = w' := by
 have c0 : w.cell? ⟨tb, 0, none⟩ = some (.string s) := by simp [World.cell?, ht]
 have hszi : (s.size : Int) ≤ 9223372036854775806 := by omega
 clear ht hs
 by_cases hn : 0 ≤ z
 rotate_left
 ·have HR := Lib.hid (letAt_neg (s := s) (z := z) (by omega))
  go_enter Tryz.func195, Tryz.ntmps195
  go_wp2_with fail
  go_ret
  exact ⟨by rw [HR.out]; rfl, rfl⟩
 by_cases hl : z < (s.size : Int)
 rotate_left
 ·have HR := Lib.hid (letAt_out (s := s) (z := z) (by omega))
  go_enter Tryz.func195, Tryz.ntmps195
  go_wp2_with fail
  go_ret
  exact ⟨by rw [HR.out]; rfl, rfl⟩
 obtain ⟨m, rfl⟩ : ∃ m : Nat, z = m := ⟨z.toNat, by omega⟩
 have hm : m < s.size := by omega
 have hix := fun w => ix_at' (s := s) rfl hm w
 have hc := (s[m]'hm).toNat_lt
 have hr := letAt_in hm
 generalize s[m]'hm = c at hix hc hr
 have HR0 := Lib.hid hr
 clear hr hm
 by_cases ha : 97 ≤ c.toNat
 ·have hai : 97 ≤ (c.toNat : Int) := by omega
  by_cases hz : c.toNat ≤ 122
  ·have hzi : (c.toNat : Int) ≤ 122 := by omega
   have HR := Lib.hid (show letAt s m = true by rw [HR0.out]; unfold isL; rw [decide_eq_true ha, decide_eq_true hz]; rfl)
   clear ha hz
   go_enter Tryz.func195, Tryz.ntmps195
   go_wp2_with fail
   go_ret
   exact ⟨by rw [HR.out]; rfl, rfl⟩
  ·have hzi : ¬ (c.toNat : Int) ≤ 122 := by omega
   have HR := Lib.hid (show letAt s m = false by rw [HR0.out]; unfold isL; rw [decide_eq_false hz, Bool.and_false])
   clear ha hz
   go_enter Tryz.func195, Tryz.ntmps195
   go_wp2_with fail
   go_ret
   exact ⟨by rw [HR.out]; rfl, rfl⟩
 ·have hai : ¬ 97 ≤ (c.toNat : Int) := by omega
  have HR := Lib.hid (show letAt s m = false by rw [HR0.out]; unfold isL; rw [decide_eq_false ha]; rfl)
  clear ha
  go_enter Tryz.func195, Tryz.ntmps195
  go_wp2_with fail
  go_ret
  exact ⟨by rw [HR.out]; rfl, rfl⟩
theorem frmVar {w : World} {b : Nat} {v0 v1 : Value} (h : w.heap[b]? = some (.cells #[v0, v1] 268 (0, 0))) :
  (loadVar 268 ⟨b, 0, none⟩).run Tryz.prog w = .ok (.agg #[v0, v1]) w :=
 run_loadVar_row w b _ _ _ _ _ h Tryz.underlying268 rfl (by kernel_rfl)
def FramedPost (s : ByteArray) (w : World) (e : Ending) (w' : World) : Prop := Below w.heap.size w w' ∧
 ((∃ (i : Nat) (v : UInt8), s.data.toList[i]? = some v ∧ isoAt s i = true ∧ (∀ j, j < i → isoAt s j = false) ∧ e = .returned (.tuple #[.agg #[.string (s.extract 0 i), .string (s.extract (i + 1) s.size)], .int .i32 (v.toNat : Int)])) ∨
  ((∀ j, j < s.size → isoAt s j = false) ∧ e = .returned (.tuple #[.agg #[.string ⟨#[]⟩, .string ⟨#[]⟩], .int .i32 0])))
theorem iter_below' (w : World) (s : ByteArray) (n : Nat) : Below w.heap.size w (w.iter s n) := (Below.refl _ _).alloc (Nat.le_refl _) _
set_option maxHeartbeats 8000000 in
set_option maxRecDepth 100000 in
theorem framed_any (s : ByteArray) (hs : s.size ≤ 9223372036854775806) (w : World) : Calls Tryz.prog 181 #[.string s] w (FramedPost s w) := by
 have HSZ := Lib.hid hs
 have hszi : (s.size : Int) ≤ 9223372036854775806 := by omega
 clear hs
 obtain ⟨W2, hW2⟩ : ∃ W2, W2 = (w.alloc (.cells #[.string s] 9)).alloc (.cells #[.string ⟨#[]⟩, .string ⟨#[]⟩] 268) := ⟨_, rfl⟩
 have T0 : Hid (W2.heap[w.heap.size]? = some (.cells #[.string s] 9 (0, 0))) := by show W2.heap[_]? = _; rw [hW2]; exact fst_block _ _ _
 have T1 : Hid (W2.heap[w.heap.size + 1]? = some (.cells #[.string ⟨#[]⟩, .string ⟨#[]⟩] 268 (0, 0))) := by show W2.heap[_]? = _; rw [hW2]; exact snd_block _ _ _
 have B2 : Hid (Below w.heap.size w W2 ∧ w.heap.size + 1 < W2.heap.size) := by
  show Below _ _ _ ∧ _
  rw [hW2]
  exact ⟨bel_two _ _ _, by simp⟩
 go_enter Tryz.func181, Tryz.ntmps181
 go_upto_region 1 with fail
 rw [← hW2]
 clear hW2
 have c0 : W2.cell? ⟨w.heap.size, 0, none⟩ = some (.string s) := by have := T0.out; simp [World.cell?, this]
 go_wp2_with fail
 clear c0
 go_loopw [5, 6] (fun _ _ wr => ∃ k : Nat, wr = W2.iter s k ∧ k ≤ s.size ∧ Hid (∀ j, j < k → isoAt s j = false)) (fun _ _ wr => s.size - wr.iterPos W2.heap.size)
 case atStart => exact ⟨0, rfl, Nat.zero_le _, fun j h => absurd h (Nat.not_lt_zero _)⟩
 case round =>
  obtain ⟨k, rfl, hk, HA⟩ := hrel
  by_cases hp : k < s.size
  rotate_left
  ·have hnx : ∀ ty, (Instr.next (.pointer (some ⟨W2.heap.size, 0, none⟩)) true ty).run Tryz.prog (W2.iter s k) = _ := fun ty => run_next_end W2 s k ty hp
   have HN := Lib.hid (show ∀ j, j < s.size → isoAt s j = false from fun j hj => HA.out j (by omega))
   have HIT := Lib.hid (iter_below' W2 s k)
   have T1' := Lib.hid ((HIT.out.block _ (lt_of_block T1.out)).trans T1.out)
   clear hk hp
   generalize W2.iter s k = W3 at hnx HIT T1' ⊢
   obtain ⟨d0, d1, df⟩ := cells2 T1'.out
   go_wp2_with fail
   refine bodyPost_ret (v := .tuple #[.agg #[.string ⟨#[]⟩, .string ⟨#[]⟩], .int .i32 0]) (results_cell_tmp Tryz.results181 rfl rfl (frmVar (set2_block T1'.out))) rfl ?_
   exact ⟨below_set2 (B2.out.1.trans (HIT.out.mono B2.out.1.size)) (Nat.le_succ _), .inr ⟨HN.out, rfl⟩⟩
  have hnx : ∀ ty, (Instr.next (.pointer (some ⟨W2.heap.size, 0, none⟩)) true ty).run Tryz.prog (W2.iter s k) = _ := fun ty => run_next_any W2 s k ty hp
  have HKP := Lib.hid hp
  have hki : (k : Int) ≤ 9223372036854775806 := by omega
  have hk0 : -1 ≤ (k : Int) := by omega
  by_cases ha : (s[k]'hp).toNat < 128
  ·rw [decode_ascii s k hp ha] at hnx
   have HG := Lib.hid (get_at' hp)
   have HLK := Lib.hid (letAt_in hp)
   generalize s[k]'hp = c at hnx HG HLK ha
   have HIT := Lib.hid (iter_below' W2 s (k + 1))
   have T0' := Lib.hid ((HIT.out.block _ (lt_of_block T0.out)).trans T0.out)
   have T1' := Lib.hid ((HIT.out.block _ (lt_of_block T1.out)).trans T1.out)
   clear hk ha hp
   have q1 : IntKind.i64.wrap ((k : Int) - 1) = (k : Int) - 1 := by rw [IntKind.wrap_i64]; omega
   cases hL : letAt s (k : Int)
   ·have HF := Lib.hid (show ∀ j, j < k + 1 → isoAt s j = false from fun j hj => by
     rcases Nat.lt_or_ge j k with h | h
     ·exact HA.out j h
     ·obtain rfl : j = k := by omega
      unfold isoAt; rw [hL]; rfl)
    go_wp2_with fail
    refine (letAt_any s HSZ.out (k : Int) (by omega) (by omega) w.heap.size _ _ T0'.out).mono ?_
    rintro e w' ⟨rfl, rfl⟩
    rw [hL]
    clear hL
    go_wp2_with fail
    go_roundw
    case rel => exact ⟨k + 1, rfl, HKP.out, HF.out⟩
    case measure => have := HKP.out; simp; omega
   ·cases hL1 : letAt s ((k : Int) - 1)
    rotate_left
    ·have HF := Lib.hid (show ∀ j, j < k + 1 → isoAt s j = false from fun j hj => by
      rcases Nat.lt_or_ge j k with h | h
      ·exact HA.out j h
      ·obtain rfl : j = k := by omega
       unfold isoAt; rw [hL, hL1]; rfl)
     go_wp2_with fail
     refine (letAt_any s HSZ.out (k : Int) (by omega) (by omega) w.heap.size _ _ T0'.out).mono ?_
     rintro e w' ⟨rfl, rfl⟩
     rw [hL]
     clear hL
     go_wp2_with fail
     refine (letAt_any s HSZ.out ((k : Int) - 1) (by omega) (by omega) w.heap.size _ _ T0'.out).mono ?_
     rintro e w' ⟨rfl, rfl⟩
     rw [hL1]
     clear hL1
     go_wp2_with fail
     go_roundw
     case rel => exact ⟨k + 1, rfl, HKP.out, HF.out⟩
     case measure => have := HKP.out; simp; omega
    ·cases hL2 : letAt s ((k : Int) + 1)
     rotate_left
     ·have HF := Lib.hid (show ∀ j, j < k + 1 → isoAt s j = false from fun j hj => by
       rcases Nat.lt_or_ge j k with h | h
       ·exact HA.out j h
       ·obtain rfl : j = k := by omega
        unfold isoAt; rw [hL, hL1, hL2]; rfl)
      go_wp2_with fail
      refine (letAt_any s HSZ.out (k : Int) (by omega) (by omega) w.heap.size _ _ T0'.out).mono ?_
      rintro e w' ⟨rfl, rfl⟩
      rw [hL]
      clear hL
      go_wp2_with fail
      refine (letAt_any s HSZ.out ((k : Int) - 1) (by omega) (by omega) w.heap.size _ _ T0'.out).mono ?_
      rintro e w' ⟨rfl, rfl⟩
      rw [hL1]
      clear hL1
      go_wp2_with fail
      refine (letAt_any s HSZ.out ((k : Int) + 1) (by omega) (by have := HKP.out; have := HSZ.out; omega) w.heap.size _ _ T0'.out).mono ?_
      rintro e w' ⟨rfl, rfl⟩
      rw [hL2]
      clear hL2
      go_wp2_with fail
      go_roundw
      case rel => exact ⟨k + 1, rfl, HKP.out, HF.out⟩
      case measure => have := HKP.out; simp; omega
     ·have HY := Lib.hid (show isoAt s k = true by unfold isoAt; rw [hL, hL1, hL2]; rfl)
      go_wp2_with fail
      refine (letAt_any s HSZ.out (k : Int) (by omega) (by omega) w.heap.size _ _ T0'.out).mono ?_
      rintro e w' ⟨rfl, rfl⟩
      rw [hL]
      clear hL
      go_wp2_with fail
      refine (letAt_any s HSZ.out ((k : Int) - 1) (by omega) (by omega) w.heap.size _ _ T0'.out).mono ?_
      rintro e w' ⟨rfl, rfl⟩
      rw [hL1]
      clear hL1
      go_wp2_with fail
      refine (letAt_any s HSZ.out ((k : Int) + 1) (by omega) (by have := HKP.out; have := HSZ.out; omega) w.heap.size _ _ T0'.out).mono ?_
      rintro e w' ⟨rfl, rfl⟩
      rw [hL2]
      clear hL2
      go_upto_region 6 with fail
      clear hnx
      have b1 : (k : Int) ≤ (s.size : Int) := by have := HKP.out; omega
      have b2 : (k : Int) + 1 ≤ (s.size : Int) := by have := HKP.out; omega
      have q2 : IntKind.i64.wrap ((k : Int) + 1) = (k : Int) + 1 := by rw [IntKind.wrap_i64]; omega
      generalize W2.iter s (k + 1) = W3 at HIT T0' T1' ⊢
      have c0 : W3.cell? ⟨w.heap.size, 0, none⟩ = some (.string s) := by have := T0'.out; simp [World.cell?, this]
      obtain ⟨d0, d1, df⟩ := cells2 T1'.out
      go_region
      all_goals
       go_wp2_with fail
       refine bodyPost_ret (v := .tuple #[.agg #[.string (s.extract 0 k), .string (s.extract (k + 1) s.size)], .int .i32 (c.toNat : Int)]) (results_cell_tmp Tryz.results181 rfl rfl (frmVar (by first | exact set2_block T1'.out | (show _ = _; simpa using set2_block T1'.out)))) rfl ?_
       exact ⟨by first | exact (below_set2 (B2.out.1.trans (HIT.out.mono B2.out.1.size)) (Nat.le_succ _)).drew | exact below_set2 (B2.out.1.trans (HIT.out.mono B2.out.1.size)) (Nat.le_succ _), .inl ⟨k, c, HG.out, HY.out, HA.out, rfl⟩⟩
  ·have hh := (decode_high s k hp (by omega)).1
   have HW := Lib.hid (decode_high s k hp (by omega)).2
   have HSK := Lib.hid (decode_skip s k hp)
   have hL : letAt s (k : Int) = false := by rw [letAt_in hp]; exact isL_high (by omega)
   have HIK := Lib.hid (show isoAt s k = false from iso_high hp (by omega))
   clear ha hk hh hp
   generalize Utf8.decode s k = cw at hnx HSK HW
   obtain ⟨cc, cn⟩ := cw
   have HF := Lib.hid (show ∀ j, j < k + cn → isoAt s j = false from fun j hj => by
    rcases Nat.lt_or_ge j k with h | h
    ·exact HA.out j h
    ·by_cases e : j = k
     ·rw [e]; exact HIK.out
     ·obtain ⟨h1, h2⟩ := HSK.out.2 j (by omega) hj
      exact iso_high h1 h2)
   have HIT := Lib.hid (iter_below' W2 s (k + cn))
   have T0' := Lib.hid ((HIT.out.block _ (lt_of_block T0.out)).trans T0.out)
   go_wp2_with fail
   refine (letAt_any s HSZ.out (k : Int) (by omega) (by omega) w.heap.size _ _ T0'.out).mono ?_
   rintro e w' ⟨rfl, rfl⟩
   rw [hL]
   clear hL
   go_wp2_with fail
   go_roundw
   case rel => exact ⟨k + cn, rfl, HSK.out.1, HF.out⟩
   case measure => have := HKP.out; have h1 : 1 ≤ cn := HW.out; simp; omega
end Go.Proofs.YtgimdkgjfenafaaGreatDoor
namespace Go.Proofs.YtgimdkgjfenafaaGreatDoor
open Go.RowKit
theorem dset4_block {w : World} {b : Nat} {T : TypeId} {v0 v1 v2 v3 u0 u1 u2 u3 : Value} (h : w.heap[b]? = some (.cells #[v0, v1, v2, v3] T (0, 0))) :
  ((((w.setCell ⟨b, 0, none⟩ u0).setCell ⟨b, 1, none⟩ u1).setCell ⟨b, 2, none⟩ u2).setCell ⟨b, 3, none⟩ u3).heap[b]? = some (.cells #[u0, u1, u2, u3] T (0, 0)) := by
 have h0 := heap_setCell_same _ b 0 _ T u0 h
 have h1 := heap_setCell_same _ b 1 _ T u1 h0
 have h2 := heap_setCell_same _ b 2 _ T u2 h1
 have h3 := heap_setCell_same _ b 3 _ T u3 h2
 rw [h3]
 rfl
theorem dbelow_set4 {B : Nat} {w W : World} (h : Below B w W) {b : Nat} (hb : B ≤ b) {u0 u1 u2 u3 : Value} : Below B w ((((W.setCell ⟨b, 0, none⟩ u0).setCell ⟨b, 1, none⟩ u1).setCell ⟨b, 2, none⟩ u2).setCell ⟨b, 3, none⟩ u3) :=
 (((h.setCell (p := ⟨b, 0, none⟩) hb _).setCell (p := ⟨b, 1, none⟩) hb _).setCell (p := ⟨b, 2, none⟩) hb _).setCell (p := ⟨b, 3, none⟩) hb _
theorem dcells4 {w : World} {b : Nat} {T : TypeId} {v0 v1 v2 v3 : Value} (h : w.heap[b]? = some (.cells #[v0, v1, v2, v3] T (0, 0))) :
  w.cell? ⟨b, 0, none⟩ = some v0 ∧ w.cell? ⟨b, 1, none⟩ = some v1 ∧ w.cell? ⟨b, 2, none⟩ = some v2 ∧ w.cell? ⟨b, 3, none⟩ = some v3 ∧ ∀ j, w.frozen? ⟨b, j, none⟩ = false := by
 refine ⟨?_, ?_, ?_, ?_, fun j => ?_⟩ <;> simp [World.cell?, World.frozen?, h]
theorem pruleVar {w : World} {b : Nat} {v0 v1 v2 v3 : Value} (h : w.heap[b]? = some (.cells #[v0, v1, v2, v3] 125 (0, 0))) :
  (loadVar 125 ⟨b, 0, none⟩).run Tryz.prog w = .ok (.agg #[v0, v1, v2, v3]) w :=
 run_loadVar_row w b _ _ _ _ _ h Tryz.underlying125 rfl (by kernel_rfl)
def Cls.num' : Cls → Int
 | .any => 0 | .num => 1 | .int => 2 | .mem => 3 | .arr => 4
def Rule.sortP : Rule → Int
 | .bad => 0 | .fixed _ => 1 | .bind _ _ => 2 | .same _ => 3 | .elem _ => 4 | .turn _ => 5 | .index _ => 6 | .anys => 7 | .nums => 7
def Rule.clsP : Rule → Int
 | .bind _ c => c.num' | .nums => 1 | _ => 0
def Rule.textP : Rule → ByteArray
 | .fixed t => t | _ => ⟨#[]⟩
def withoutL (l : List UInt8) : Rule := if l = [97, 110, 121, 42] then .anys else if l = [110, 117, 109, 42] then .nums else .bad
def withL (b a : List UInt8) (v : UInt8) : Rule :=
 if b = [] ∧ a = [] then .same v else if b = [101, 108, 101, 109, 32] ∧ a = [] then .elem v else if b = [116, 117, 114, 110, 32] ∧ a = [] then .turn v else if b = [105, 110, 100, 101, 120, 94] ∧ a = [] then .index v
 else if b = [] ∧ a = [58, 105, 110, 116] then .bind v .int else if b = [] ∧ a = [58, 110, 117, 109] then .bind v .num else if b = [] ∧ a = [58, 109, 101, 109] then .bind v .mem else if b = [] ∧ a = [58, 97, 114, 114] then .bind v .arr else if b = [] ∧ a = [58, 97, 110, 121] then .bind v .any else .bad
def RuleP (r : Rule) (w : World) (e : Ending) (w' : World) : Prop := e = .returned (.agg #[.int .i64 r.sortP, .int .i64 r.clsP, .int .i32 0, .string ⟨#[]⟩]) ∧ Below w.heap.size w w'
set_option maxHeartbeats 2000000 in
theorem withoutVariable_any (s : ByteArray) (w : World) : Calls Tryz.prog 182 #[.string s] w (RuleP (withoutL s.data.toList) w) := by
 obtain ⟨W1, hW1⟩ : ∃ W1, W1 = w.alloc (.cells #[.int .i64 0, .int .i64 0, .int .i32 0, .string ⟨#[]⟩] 125) := ⟨_, rfl⟩
 have T1 : Hid (W1.heap[w.heap.size]? = some (.cells #[.int .i64 0, .int .i64 0, .int .i32 0, .string ⟨#[]⟩] 125 (0, 0))) := by
  show W1.heap[w.heap.size]? = _
  rw [hW1]
  exact heap_alloc_new _ _
 have B1 : Hid (Below w.heap.size w W1) := by
  show Below _ _ _
  rw [hW1]
  exact (Below.refl _ w).alloc (Nat.le_refl _) _
 obtain ⟨c0, c1, c2, c3, cf⟩ := dcells4 T1.out
 by_cases h1 : s.data.toList = [97, 110, 121, 42]
 ·have k1 := beq_yes h1 rfl
  have HR := Lib.hid (show withoutL s.data.toList = .anys by unfold withoutL; rw [if_pos h1])
  clear h1
  go_enter Tryz.func182, Tryz.ntmps182
  go_upto_region 1 with fail
  rw [← hW1]
  clear hW1
  go_wp2_with fail
  refine bodyPost_ret (v := .agg #[.int .i64 7, .int .i64 0, .int .i32 0, .string ⟨#[]⟩]) (results_cell Tryz.results182 rfl (pruleVar (dset4_block T1.out))) rfl ?_
  exact ⟨by rw [HR.out]; rfl, dbelow_set4 B1.out (Nat.le_refl _)⟩
 have k1 := beq_no rfl h1
 by_cases h2 : s.data.toList = [110, 117, 109, 42]
 ·have k2 := beq_yes h2 rfl
  have HR := Lib.hid (show withoutL s.data.toList = .nums by unfold withoutL; rw [if_neg h1, if_pos h2])
  clear h1 h2
  go_enter Tryz.func182, Tryz.ntmps182
  go_upto_region 1 with fail
  rw [← hW1]
  clear hW1
  go_wp2_with fail
  refine bodyPost_ret (v := .agg #[.int .i64 7, .int .i64 1, .int .i32 0, .string ⟨#[]⟩]) (results_cell Tryz.results182 rfl (pruleVar (dset4_block T1.out))) rfl ?_
  exact ⟨by rw [HR.out]; rfl, dbelow_set4 B1.out (Nat.le_refl _)⟩
 have k2 := beq_no rfl h2
 have HR := Lib.hid (show withoutL s.data.toList = .bad by unfold withoutL; rw [if_neg h1, if_neg h2])
 clear h1 h2
 go_enter Tryz.func182, Tryz.ntmps182
 go_upto_region 1 with fail
 rw [← hW1]
 clear hW1
 go_wp2_with fail
 refine bodyPost_ret (v := .agg #[.int .i64 0, .int .i64 0, .int .i32 0, .string ⟨#[]⟩]) (results_cell Tryz.results182 rfl (pruleVar (dset4_block T1.out))) rfl ?_
 exact ⟨by rw [HR.out]; rfl, dbelow_set4 B1.out (Nat.le_refl _)⟩
set_option maxHeartbeats 16000000 in
set_option maxRecDepth 100000 in
theorem withVariable_any (b a : ByteArray) (v : UInt8) (w : World) : Calls Tryz.prog 183 #[.agg #[.string b, .string a]] w (RuleP (withL b.data.toList a.data.toList v) w) := by
 obtain ⟨W1, hW1⟩ : ∃ W1, W1 = (w.alloc (.cells #[.string b, .string a] 268)).alloc (.cells #[.int .i64 0, .int .i64 0, .int .i32 0, .string ⟨#[]⟩] 125) := ⟨_, rfl⟩
 have T0 : Hid (W1.heap[w.heap.size]? = some (.cells #[.string b, .string a] 268 (0, 0))) := by show W1.heap[_]? = _; rw [hW1]; exact fst_block _ _ _
 have T1 : Hid (W1.heap[w.heap.size + 1]? = some (.cells #[.int .i64 0, .int .i64 0, .int .i32 0, .string ⟨#[]⟩] 125 (0, 0))) := by show W1.heap[_]? = _; rw [hW1]; exact snd_block _ _ _
 have B1 : Hid (Below w.heap.size w W1) := by show Below _ _ _; rw [hW1]; exact bel_two _ _ _
 obtain ⟨c0, c1, c2, c3, cf⟩ := dcells4 T1.out
 obtain ⟨d0, d1, df⟩ := cells2 T0.out
 by_cases hb0 : b.data.toList = []
 ·have p0 := beq_yes hb0 rfl
  have p1 := beq_no (m := [101, 108, 101, 109, 32]) hb0 (by decide)
  have p2 := beq_no (m := [116, 117, 114, 110, 32]) hb0 (by decide)
  have p3 := beq_no (m := [105, 110, 100, 101, 120, 94]) hb0 (by decide)
  by_cases ha0 : a.data.toList = []
  ·have q0 := beq_yes ha0 rfl
   have q1 := beq_no (m := [58, 105, 110, 116]) ha0 (by decide)
   have q2 := beq_no (m := [58, 110, 117, 109]) ha0 (by decide)
   have q3 := beq_no (m := [58, 109, 101, 109]) ha0 (by decide)
   have q4 := beq_no (m := [58, 97, 114, 114]) ha0 (by decide)
   have q5 := beq_no (m := [58, 97, 110, 121]) ha0 (by decide)
   have HR := Lib.hid (show withL b.data.toList a.data.toList v = (.same v) by
    rw [hb0, ha0]; rfl)
   clear ha0 hb0
   go_enter Tryz.func183, Tryz.ntmps183
   go_upto_region 1 with fail
   rw [← hW1]
   clear hW1
   go_wp2_with fail
   refine bodyPost_ret (v := .agg #[.int .i64 3, .int .i64 0, .int .i32 0, .string ⟨#[]⟩]) (results_cell Tryz.results183 rfl (pruleVar (dset4_block T1.out))) rfl ?_
   exact ⟨by rw [HR.out]; rfl, dbelow_set4 B1.out (Nat.le_succ _)⟩
  have q0 := beq_no rfl ha0
  by_cases ha1 : a.data.toList = [58, 105, 110, 116]
  ·have q1 := beq_yes ha1 rfl
   have q2 := beq_no (m := [58, 110, 117, 109]) ha1 (by decide)
   have q3 := beq_no (m := [58, 109, 101, 109]) ha1 (by decide)
   have q4 := beq_no (m := [58, 97, 114, 114]) ha1 (by decide)
   have q5 := beq_no (m := [58, 97, 110, 121]) ha1 (by decide)
   have HR := Lib.hid (show withL b.data.toList a.data.toList v = (.bind v .int) by
    rw [hb0, ha1]; rfl)
   clear ha0 ha1 hb0
   go_enter Tryz.func183, Tryz.ntmps183
   go_upto_region 1 with fail
   rw [← hW1]
   clear hW1
   go_wp2_with fail
   refine bodyPost_ret (v := .agg #[.int .i64 2, .int .i64 2, .int .i32 0, .string ⟨#[]⟩]) (results_cell Tryz.results183 rfl (pruleVar (dset4_block T1.out))) rfl ?_
   exact ⟨by rw [HR.out]; rfl, dbelow_set4 B1.out (Nat.le_succ _)⟩
  have q1 := beq_no rfl ha1
  by_cases ha2 : a.data.toList = [58, 110, 117, 109]
  ·have q2 := beq_yes ha2 rfl
   have q3 := beq_no (m := [58, 109, 101, 109]) ha2 (by decide)
   have q4 := beq_no (m := [58, 97, 114, 114]) ha2 (by decide)
   have q5 := beq_no (m := [58, 97, 110, 121]) ha2 (by decide)
   have HR := Lib.hid (show withL b.data.toList a.data.toList v = (.bind v .num) by
    rw [hb0, ha2]; rfl)
   clear ha0 ha1 ha2 hb0
   go_enter Tryz.func183, Tryz.ntmps183
   go_upto_region 1 with fail
   rw [← hW1]
   clear hW1
   go_wp2_with fail
   refine bodyPost_ret (v := .agg #[.int .i64 2, .int .i64 1, .int .i32 0, .string ⟨#[]⟩]) (results_cell Tryz.results183 rfl (pruleVar (dset4_block T1.out))) rfl ?_
   exact ⟨by rw [HR.out]; rfl, dbelow_set4 B1.out (Nat.le_succ _)⟩
  have q2 := beq_no rfl ha2
  by_cases ha3 : a.data.toList = [58, 109, 101, 109]
  ·have q3 := beq_yes ha3 rfl
   have q4 := beq_no (m := [58, 97, 114, 114]) ha3 (by decide)
   have q5 := beq_no (m := [58, 97, 110, 121]) ha3 (by decide)
   have HR := Lib.hid (show withL b.data.toList a.data.toList v = (.bind v .mem) by
    rw [hb0, ha3]; rfl)
   clear ha0 ha1 ha2 ha3 hb0
   go_enter Tryz.func183, Tryz.ntmps183
   go_upto_region 1 with fail
   rw [← hW1]
   clear hW1
   go_wp2_with fail
   refine bodyPost_ret (v := .agg #[.int .i64 2, .int .i64 3, .int .i32 0, .string ⟨#[]⟩]) (results_cell Tryz.results183 rfl (pruleVar (dset4_block T1.out))) rfl ?_
   exact ⟨by rw [HR.out]; rfl, dbelow_set4 B1.out (Nat.le_succ _)⟩
  have q3 := beq_no rfl ha3
  by_cases ha4 : a.data.toList = [58, 97, 114, 114]
  ·have q4 := beq_yes ha4 rfl
   have q5 := beq_no (m := [58, 97, 110, 121]) ha4 (by decide)
   have HR := Lib.hid (show withL b.data.toList a.data.toList v = (.bind v .arr) by
    rw [hb0, ha4]; rfl)
   clear ha0 ha1 ha2 ha3 ha4 hb0
   go_enter Tryz.func183, Tryz.ntmps183
   go_upto_region 1 with fail
   rw [← hW1]
   clear hW1
   go_wp2_with fail
   refine bodyPost_ret (v := .agg #[.int .i64 2, .int .i64 4, .int .i32 0, .string ⟨#[]⟩]) (results_cell Tryz.results183 rfl (pruleVar (dset4_block T1.out))) rfl ?_
   exact ⟨by rw [HR.out]; rfl, dbelow_set4 B1.out (Nat.le_succ _)⟩
  have q4 := beq_no rfl ha4
  by_cases ha5 : a.data.toList = [58, 97, 110, 121]
  ·have q5 := beq_yes ha5 rfl
   have HR := Lib.hid (show withL b.data.toList a.data.toList v = (.bind v .any) by
    rw [hb0, ha5]; rfl)
   clear ha0 ha1 ha2 ha3 ha4 ha5 hb0
   go_enter Tryz.func183, Tryz.ntmps183
   go_upto_region 1 with fail
   rw [← hW1]
   clear hW1
   go_wp2_with fail
   refine bodyPost_ret (v := .agg #[.int .i64 2, .int .i64 0, .int .i32 0, .string ⟨#[]⟩]) (results_cell Tryz.results183 rfl (pruleVar (dset4_block T1.out))) rfl ?_
   exact ⟨by rw [HR.out]; rfl, dbelow_set4 B1.out (Nat.le_succ _)⟩
  have q5 := beq_no rfl ha5
  have HR := Lib.hid (show withL b.data.toList a.data.toList v = .bad by
   unfold withL; simp only [ha0, ha1, ha2, ha3, ha4, ha5, and_false, if_false])
  clear ha0 ha1 ha2 ha3 ha4 ha5 hb0
  go_enter Tryz.func183, Tryz.ntmps183
  go_upto_region 1 with fail
  rw [← hW1]
  clear hW1
  go_wp2_with fail
  refine bodyPost_ret (v := .agg #[.int .i64 0, .int .i64 0, .int .i32 0, .string ⟨#[]⟩]) (results_cell Tryz.results183 rfl (pruleVar (dset4_block T1.out))) rfl ?_
  exact ⟨by rw [HR.out]; rfl, dbelow_set4 B1.out (Nat.le_succ _)⟩
 have p0 := beq_no rfl hb0
 by_cases hb1 : b.data.toList = [101, 108, 101, 109, 32]
 ·have p1 := beq_yes hb1 rfl
  have p2 := beq_no (m := [116, 117, 114, 110, 32]) hb1 (by decide)
  have p3 := beq_no (m := [105, 110, 100, 101, 120, 94]) hb1 (by decide)
  by_cases ha0 : a.data.toList = []
  ·have q0 := beq_yes ha0 rfl
   have HR := Lib.hid (show withL b.data.toList a.data.toList v = (.elem v) by
    rw [hb1, ha0]; rfl)
   clear ha0 hb0 hb1
   go_enter Tryz.func183, Tryz.ntmps183
   go_upto_region 1 with fail
   rw [← hW1]
   clear hW1
   go_wp2_with fail
   refine bodyPost_ret (v := .agg #[.int .i64 4, .int .i64 0, .int .i32 0, .string ⟨#[]⟩]) (results_cell Tryz.results183 rfl (pruleVar (dset4_block T1.out))) rfl ?_
   exact ⟨by rw [HR.out]; rfl, dbelow_set4 B1.out (Nat.le_succ _)⟩
  have q0 := beq_no rfl ha0
  have HR := Lib.hid (show withL b.data.toList a.data.toList v = .bad by
   have hb0 : b.data.toList ≠ [] := by rw [hb1]; decide
   unfold withL; simp only [ha0, hb0, false_and, and_false, if_false])
  clear ha0 hb0 hb1
  go_enter Tryz.func183, Tryz.ntmps183
  go_upto_region 1 with fail
  rw [← hW1]
  clear hW1
  go_wp2_with fail
  refine bodyPost_ret (v := .agg #[.int .i64 0, .int .i64 0, .int .i32 0, .string ⟨#[]⟩]) (results_cell Tryz.results183 rfl (pruleVar (dset4_block T1.out))) rfl ?_
  exact ⟨by rw [HR.out]; rfl, dbelow_set4 B1.out (Nat.le_succ _)⟩
 have p1 := beq_no rfl hb1
 by_cases hb2 : b.data.toList = [116, 117, 114, 110, 32]
 ·have p2 := beq_yes hb2 rfl
  have p3 := beq_no (m := [105, 110, 100, 101, 120, 94]) hb2 (by decide)
  by_cases ha0 : a.data.toList = []
  ·have q0 := beq_yes ha0 rfl
   have HR := Lib.hid (show withL b.data.toList a.data.toList v = (.turn v) by
    rw [hb2, ha0]; rfl)
   clear ha0 hb0 hb1 hb2
   go_enter Tryz.func183, Tryz.ntmps183
   go_upto_region 1 with fail
   rw [← hW1]
   clear hW1
   go_wp2_with fail
   refine bodyPost_ret (v := .agg #[.int .i64 5, .int .i64 0, .int .i32 0, .string ⟨#[]⟩]) (results_cell Tryz.results183 rfl (pruleVar (dset4_block T1.out))) rfl ?_
   exact ⟨by rw [HR.out]; rfl, dbelow_set4 B1.out (Nat.le_succ _)⟩
  have q0 := beq_no rfl ha0
  have HR := Lib.hid (show withL b.data.toList a.data.toList v = .bad by
   have hb0 : b.data.toList ≠ [] := by rw [hb2]; decide
   unfold withL; simp only [ha0, hb0, false_and, and_false, if_false])
  clear ha0 hb0 hb1 hb2
  go_enter Tryz.func183, Tryz.ntmps183
  go_upto_region 1 with fail
  rw [← hW1]
  clear hW1
  go_wp2_with fail
  refine bodyPost_ret (v := .agg #[.int .i64 0, .int .i64 0, .int .i32 0, .string ⟨#[]⟩]) (results_cell Tryz.results183 rfl (pruleVar (dset4_block T1.out))) rfl ?_
  exact ⟨by rw [HR.out]; rfl, dbelow_set4 B1.out (Nat.le_succ _)⟩
 have p2 := beq_no rfl hb2
 by_cases hb3 : b.data.toList = [105, 110, 100, 101, 120, 94]
 ·have p3 := beq_yes hb3 rfl
  by_cases ha0 : a.data.toList = []
  ·have q0 := beq_yes ha0 rfl
   have HR := Lib.hid (show withL b.data.toList a.data.toList v = (.index v) by
    rw [hb3, ha0]; rfl)
   clear ha0 hb0 hb1 hb2 hb3
   go_enter Tryz.func183, Tryz.ntmps183
   go_upto_region 1 with fail
   rw [← hW1]
   clear hW1
   go_wp2_with fail
   refine bodyPost_ret (v := .agg #[.int .i64 6, .int .i64 0, .int .i32 0, .string ⟨#[]⟩]) (results_cell Tryz.results183 rfl (pruleVar (dset4_block T1.out))) rfl ?_
   exact ⟨by rw [HR.out]; rfl, dbelow_set4 B1.out (Nat.le_succ _)⟩
  have q0 := beq_no rfl ha0
  have HR := Lib.hid (show withL b.data.toList a.data.toList v = .bad by
   have hb0 : b.data.toList ≠ [] := by rw [hb3]; decide
   unfold withL; simp only [ha0, hb0, false_and, and_false, if_false])
  clear ha0 hb0 hb1 hb2 hb3
  go_enter Tryz.func183, Tryz.ntmps183
  go_upto_region 1 with fail
  rw [← hW1]
  clear hW1
  go_wp2_with fail
  refine bodyPost_ret (v := .agg #[.int .i64 0, .int .i64 0, .int .i32 0, .string ⟨#[]⟩]) (results_cell Tryz.results183 rfl (pruleVar (dset4_block T1.out))) rfl ?_
  exact ⟨by rw [HR.out]; rfl, dbelow_set4 B1.out (Nat.le_succ _)⟩
 have p3 := beq_no rfl hb3
 have HR := Lib.hid (show withL b.data.toList a.data.toList v = .bad by
  unfold withL; simp only [hb0, hb1, hb2, hb3, false_and, if_false])
 clear hb0 hb1 hb2 hb3
 go_enter Tryz.func183, Tryz.ntmps183
 go_upto_region 1 with fail
 rw [← hW1]
 clear hW1
 go_wp2_with fail
 refine bodyPost_ret (v := .agg #[.int .i64 0, .int .i64 0, .int .i32 0, .string ⟨#[]⟩]) (results_cell Tryz.results183 rfl (pruleVar (dset4_block T1.out))) rfl ?_
 exact ⟨by rw [HR.out]; rfl, dbelow_set4 B1.out (Nat.le_succ _)⟩
end Go.Proofs.YtgimdkgjfenafaaGreatDoor
namespace Go.Proofs.YtgimdkgjfenafaaGreatDoor
open Go.RowKit
def isoL : Option UInt8 → List UInt8 → Bool
 | _, [] => false
 | p, c :: r => isL c && !(match p with | some x => isL x | none => false) && !(match r with | x :: _ => isL x | [] => false)
def firstL : List UInt8 → List UInt8 → Option (List UInt8 × UInt8 × List UInt8)
 | _, [] => none
 | b, c :: r => if isoL b.getLast? (c :: r) then some (b, c, r) else firstL (b ++ [c]) r
def byFirst (l : List UInt8) : Rule := match firstL [] l with
 | none => withoutL l
 | some (b, v, a) => withL b a v
theorem firstL_split {l : List UInt8} : ∀ {b0 b : List UInt8} {v : UInt8} {a : List UInt8}, firstL b0 l = some (b, v, a) → b0 ++ l = b ++ v :: a ∧ isL v = true := by
 induction l with
 | nil => intro b0 b v a h; cases h
 | cons c r ih =>
  intro b0 b v a h
  rw [firstL] at h
  split at h
  ·rename_i hi
   cases h
   refine ⟨rfl, ?_⟩
   simp only [isoL.eq_def, Bool.and_eq_true] at hi
   exact hi.1.1
  ·obtain ⟨h1, h2⟩ := ih h
   exact ⟨by rw [← h1]; simp, h2⟩
theorem first_one {v : UInt8} (h : isL v = true) : firstL [] [v] = some ([], v, []) := by simp [firstL, isoL, h]
theorem first_bind {v a b c : UInt8} (h : isL v = true) : firstL [] [v, 58, a, b, c] = some ([], v, [58, a, b, c]) := by
 have h58 : isL 58 = false := by decide
 simp [firstL, isoL, h, h58]
theorem first_elem {v : UInt8} (h : isL v = true) : firstL [] [101, 108, 101, 109, 32, v] = some ([101, 108, 101, 109, 32], v, []) := by
 have k1 : isL 101 = true := by decide
 have k2 : isL 108 = true := by decide
 have k3 : isL 109 = true := by decide
 have k4 : isL 32 = false := by decide
 simp [firstL, isoL, h, k1, k2, k3, k4]
theorem first_turn {v : UInt8} (h : isL v = true) : firstL [] [116, 117, 114, 110, 32, v] = some ([116, 117, 114, 110, 32], v, []) := by
 have k1 : isL 116 = true := by decide
 have k2 : isL 117 = true := by decide
 have k3 : isL 114 = true := by decide
 have k4 : isL 110 = true := by decide
 have k5 : isL 32 = false := by decide
 simp [firstL, isoL, h, k1, k2, k3, k4, k5]
theorem first_index {v : UInt8} (h : isL v = true) : firstL [] [105, 110, 100, 101, 120, 94, v] = some ([105, 110, 100, 101, 120, 94], v, []) := by
 have k1 : isL 105 = true := by decide
 have k2 : isL 110 = true := by decide
 have k3 : isL 100 = true := by decide
 have k4 : isL 101 = true := by decide
 have k5 : isL 120 = true := by decide
 have k6 : isL 94 = false := by decide
 simp [firstL, isoL, h, k1, k2, k3, k4, k5, k6]
theorem clsOf_some {l : List UInt8} {k : Cls} (h : clsOf l = some k) : l = k.word := by
 unfold clsOf at h
 split at h
 ·cases h; assumption
 ·split at h
  ·cases h; assumption
  ·split at h
   ·cases h; assumption
   ·split at h
    ·cases h; assumption
    ·split at h
     ·cases h; assumption
     ·cases h
def ruleL (l : List UInt8) : Rule := match l with
  | [v] => if isL v then .same v else .bad
  | [101, 108, 101, 109, 32, v] => if isL v then .elem v else .bad
  | [116, 117, 114, 110, 32, v] => if isL v then .turn v else .bad
  | [105, 110, 100, 101, 120, 94, v] => if isL v then .index v else .bad
  | [v, 58, a, b, c] => if isL v then (match clsOf [a, b, c] with | some k => .bind v k | none => .bad) else .bad
  | _ => .bad
theorem ruleL_cases (l : List UInt8) : ruleL l = .bad ∨ (∃ v, isL v = true ∧ ruleL l = withL [] [] v ∧ firstL [] l = some ([], v, [])) ∨ (∃ v, isL v = true ∧ ruleL l = withL [101, 108, 101, 109, 32] [] v ∧ firstL [] l = some ([101, 108, 101, 109, 32], v, [])) ∨
  (∃ v, isL v = true ∧ ruleL l = withL [116, 117, 114, 110, 32] [] v ∧ firstL [] l = some ([116, 117, 114, 110, 32], v, [])) ∨ (∃ v, isL v = true ∧ ruleL l = withL [105, 110, 100, 101, 120, 94] [] v ∧ firstL [] l = some ([105, 110, 100, 101, 120, 94], v, [])) ∨
  (∃ v k, isL v = true ∧ ruleL l = withL [] (58 :: Cls.word k) v ∧ firstL [] l = some ([], v, 58 :: Cls.word k)) := by
 unfold ruleL
 split
 ·rename_i v
  by_cases h : isL v = true
  ·exact .inr (.inl ⟨v, h, by rw [if_pos h]; rfl, first_one h⟩)
  ·exact .inl (if_neg h)
 ·rename_i v
  by_cases h : isL v = true
  ·exact .inr (.inr (.inl ⟨v, h, by rw [if_pos h]; rfl, first_elem h⟩))
  ·exact .inl (if_neg h)
 ·rename_i v
  by_cases h : isL v = true
  ·exact .inr (.inr (.inr (.inl ⟨v, h, by rw [if_pos h]; rfl, first_turn h⟩)))
  ·exact .inl (if_neg h)
 ·rename_i v
  by_cases h : isL v = true
  ·exact .inr (.inr (.inr (.inr (.inl ⟨v, h, by rw [if_pos h]; rfl, first_index h⟩))))
  ·exact .inl (if_neg h)
 ·rename_i v a b c
  by_cases h : isL v = true
  ·rw [if_pos h]
   cases hk : clsOf [a, b, c] with
   | none => exact .inl rfl
   | some k =>
    have e := clsOf_some hk
    refine .inr (.inr (.inr (.inr (.inr ⟨v, k, h, ?_, ?_⟩))))
    ·cases k <;> rfl
    ·rw [← e]; exact first_bind h
  ·exact .inl (if_neg h)
 ·exact .inl rfl
theorem withL_good {b a : List UInt8} {v : UInt8} (h : withL b a v ≠ .bad) : (a = [] ∧ (b = [] ∨ b = [101, 108, 101, 109, 32] ∨ b = [116, 117, 114, 110, 32] ∨ b = [105, 110, 100, 101, 120, 94])) ∨ (b = [] ∧ ∃ k, a = 58 :: Cls.word k) := by
 unfold withL at h
 by_cases h1 : b = [] ∧ a = []
 ·exact .inl ⟨h1.2, .inl h1.1⟩
 rw [if_neg h1] at h
 by_cases h2 : b = [101, 108, 101, 109, 32] ∧ a = []
 ·exact .inl ⟨h2.2, .inr (.inl h2.1)⟩
 rw [if_neg h2] at h
 by_cases h3 : b = [116, 117, 114, 110, 32] ∧ a = []
 ·exact .inl ⟨h3.2, .inr (.inr (.inl h3.1))⟩
 rw [if_neg h3] at h
 by_cases h4 : b = [105, 110, 100, 101, 120, 94] ∧ a = []
 ·exact .inl ⟨h4.2, .inr (.inr (.inr h4.1))⟩
 rw [if_neg h4] at h
 by_cases h5 : b = [] ∧ a = [58, 105, 110, 116]
 ·exact .inr ⟨h5.1, .int, h5.2⟩
 rw [if_neg h5] at h
 by_cases h6 : b = [] ∧ a = [58, 110, 117, 109]
 ·exact .inr ⟨h6.1, .num, h6.2⟩
 rw [if_neg h6] at h
 by_cases h7 : b = [] ∧ a = [58, 109, 101, 109]
 ·exact .inr ⟨h7.1, .mem, h7.2⟩
 rw [if_neg h7] at h
 by_cases h8 : b = [] ∧ a = [58, 97, 114, 114]
 ·exact .inr ⟨h8.1, .arr, h8.2⟩
 rw [if_neg h8] at h
 by_cases h9 : b = [] ∧ a = [58, 97, 110, 121]
 ·exact .inr ⟨h9.1, .any, h9.2⟩
 rw [if_neg h9] at h
 exact absurd rfl h
theorem ruleL_first (l : List UInt8) : ruleL l = match firstL [] l with | none => .bad | some (b, v, a) => withL b a v := by
 rcases ruleL_cases l with h | ⟨v, hv, h1, h2⟩ | ⟨v, hv, h1, h2⟩ | ⟨v, hv, h1, h2⟩ | ⟨v, hv, h1, h2⟩ | ⟨v, k, hv, h1, h2⟩
 ·rw [h]
  cases hf : firstL [] l with
  | none => rfl
  | some x =>
   obtain ⟨b, v, a⟩ := x
   obtain ⟨e, hv⟩ := firstL_split hf
   rw [List.nil_append] at e
   show Rule.bad = withL b a v
   refine Classical.byContradiction fun hne => ?_
   have hg := withL_good (b := b) (a := a) (v := v) (fun e => hne e.symm)
   rcases hg with ⟨rfl, rfl | rfl | rfl | rfl⟩ | ⟨rfl, k, rfl⟩
   ·rw [e] at h; simp [ruleL, hv] at h
   ·rw [e] at h; simp [ruleL, hv] at h
   ·rw [e] at h; simp [ruleL, hv] at h
   ·rw [e] at h; simp [ruleL, hv] at h
   ·rw [e] at h; cases k <;> simp [ruleL, hv, clsOf, Cls.word] at h
 all_goals rw [h1, h2]
theorem first_any : firstL [] [97, 110, 121, 42] = none := by decide
theorem first_num : firstL [] [110, 117, 109, 42] = none := by decide
theorem ruleOf_first {s : ByteArray} (h : (readR s.data.toList).isSome = false) : ruleOf s = byFirst s.data.toList := by
 unfold byFirst
 by_cases h1 : s.data.toList = [97, 110, 121, 42]
 ·rw [h1, first_any]
  unfold ruleOf
  rw [if_neg (by rw [h]; decide), if_pos h1]
  rfl
 by_cases h2 : s.data.toList = [110, 117, 109, 42]
 ·rw [h2, first_num]
  unfold ruleOf
  rw [if_neg (by rw [h]; decide), if_neg h1, if_pos h2]
  rfl
 have e : ruleOf s = ruleL s.data.toList := by
  rw [rule_start h h1 h2]
  rfl
 rw [e, ruleL_first]
 cases firstL [] s.data.toList with
 | none =>
  show Rule.bad = withoutL _
  unfold withoutL
  rw [if_neg h1, if_neg h2]
 | some x => rfl
end Go.Proofs.YtgimdkgjfenafaaGreatDoor
namespace Go.Proofs.YtgimdkgjfenafaaGreatDoor
open Go.RowKit
theorem isoAt_list {s : ByteArray} {b : List UInt8} {c : UInt8} {r : List UInt8} (h : s.data.toList = b ++ c :: r) : isoAt s b.length = isoL b.getLast? (c :: r) := by
 unfold isoAt letAt
 rw [h]
 have e1 : (b ++ c :: r)[((b.length : Int)).toNat]? = some c := by simp
 have e2 : (b ++ c :: r)[((b.length : Int) + 1).toNat]? = r.head? := by
  rw [show ((b.length : Int) + 1).toNat = b.length + 1 by omega, List.getElem?_append_right (by omega)]
  cases r <;> simp
 rw [if_neg (by omega), e1, if_neg (by omega : ¬ ((b.length : Int) + 1 < 0)), e2]
 rcases List.eq_nil_or_concat b with rfl | ⟨b', x, rfl⟩
 ·rw [if_pos (by decide)]
  cases r <;> rfl
 ·have e3 : (b'.concat x ++ c :: r)[(((b'.concat x).length : Int) - 1).toNat]? = some x := by
   rw [show (((b'.concat x).length : Int) - 1).toNat = b'.length by simp]
   rw [List.concat_eq_append, List.append_assoc, List.getElem?_append_right (Nat.le_refl _)]
   simp
  have h1 : 0 < (b'.concat x).length := by simp
  rw [if_neg (by omega), e3, show (b'.concat x).getLast? = some x by simp]
  cases r <;> rfl
theorem firstL_iso {s : ByteArray} : ∀ (l b : List UInt8), s.data.toList = b ++ l →
  (∀ (i : Nat) (v : UInt8), b.length ≤ i → s.data.toList[i]? = some v → isoAt s i = true → (∀ j, b.length ≤ j → j < i → isoAt s j = false) → firstL b l = some (s.data.toList.take i, v, s.data.toList.drop (i + 1))) ∧
  ((∀ j, b.length ≤ j → j < s.size → isoAt s j = false) → firstL b l = none) := by
 intro l
 induction l with
 | nil =>
  intro b h
  refine ⟨fun i v hi hv _ _ => ?_, fun _ => rfl⟩
  rw [h, List.getElem?_eq_none (by simp; exact hi)] at hv
  cases hv
 | cons c r ih =>
  intro b h
  have hh := isoAt_list h
  have h' : s.data.toList = (b ++ [c]) ++ r := by rw [h]; simp
  obtain ⟨i1, i2⟩ := ih (b ++ [c]) h'
  have hlen : (b ++ [c]).length = b.length + 1 := by simp
  refine ⟨fun i v hi hv hT hF => ?_, fun hF => ?_⟩
  ·rw [firstL]
   by_cases e : i = b.length
   ·subst e
    rw [← hh, hT, if_pos rfl, h]
    rw [h] at hv
    have hc : c = v := by simpa using hv
    rw [hc]
    simp
   ·rw [← hh, hF b.length (Nat.le_refl _) (by omega), if_neg (by decide)]
    exact i1 i v (by omega) hv hT (fun j h1 h2 => hF j (by omega) h2)
  ·rw [firstL, ← hh, hF b.length (Nat.le_refl _) (by rw [size_eq, h]; simp), if_neg (by decide)]
   exact i2 (fun j h1 h2 => hF j (by omega) h2)
theorem ty_read (s : ByteArray) : ((readR s.data.toList).isSome = false ∧ NoTy s) ∨ ((readR s.data.toList).isSome = true ∧ ∃ (k b : Int) (r : Nat) (e0 e1 e2 : Int) (el : ByteArray), Ty s k b r e0 e1 e2 el) := by
 rcases agree s.data.toList with ⟨h1, h2⟩ | ⟨k, b, r, e0, e1, e2, el, hr, h1, h2, h3⟩
 ·exact .inl ⟨by rw [h1]; rfl, h2⟩
 ·exact .inr ⟨by rw [h1]; rfl, k, b, r, e0, e1, e2, ⟨el.toArray⟩, ⟨h2, h3⟩⟩
def Rule.pval (r : Rule) : Value := .agg #[.int .i64 r.sortP, .int .i64 r.clsP, .int .i32 (r.v.toNat : Int), .string r.textP]
def ReadRuleP (s : ByteArray) (w : World) (e : Ending) (w' : World) : Prop := e = .returned (ruleOf s).pval ∧ Below w.heap.size w w'
theorem byFirst_none {l : List UInt8} (h : firstL [] l = none) : byFirst l = withoutL l := by unfold byFirst; rw [h]
theorem byFirst_some {l b a : List UInt8} {v : UInt8} (h : firstL [] l = some (b, v, a)) : byFirst l = withL b a v := by unfold byFirst; rw [h]
theorem withoutL_val (l : List UInt8) : (withoutL l).pval = .agg #[.int .i64 (withoutL l).sortP, .int .i64 (withoutL l).clsP, .int .i32 0, .string ⟨#[]⟩] := by
 unfold withoutL
 split
 ·rfl
 ·split <;> rfl
theorem withL_val (b a : List UInt8) (v : UInt8) : withL b a v = .bad ∨ ((withL b a v).sortP ≠ 0 ∧ (withL b a v).v = v ∧ (withL b a v).textP = ⟨#[]⟩) := by
 unfold withL
 repeat' split
 all_goals first | exact .inl rfl | exact .inr ⟨by simp [Rule.sortP], rfl, rfl⟩
theorem is_letter {v : UInt8} (h : isL v = true) : v ≠ 0 := by
 rintro rfl
 exact absurd h (by decide)
-- WALK: readRule
set_option maxHeartbeats 8000000 in
set_option maxRecDepth 100000 in
theorem readRule_any (s : ByteArray) (hs : s.size ≤ 9223372036854775806) (w : World) (hE : Env w) : Calls Tryz.prog 170 #[.string s] w (ReadRuleP s w) := by
 obtain ⟨W1, hW1⟩ : ∃ W1, W1 = w.alloc (.cells #[.int .i64 0, .int .i64 0, .int .i32 0, .string ⟨#[]⟩] 125) := ⟨_, rfl⟩
 have T1 : Hid (W1.heap[w.heap.size]? = some (.cells #[.int .i64 0, .int .i64 0, .int .i32 0, .string ⟨#[]⟩] 125 (0, 0))) := by
  show W1.heap[w.heap.size]? = _
  rw [hW1]
  exact heap_alloc_new _ _
 have B1 : Hid (Below w.heap.size w W1 ∧ w.heap.size < W1.heap.size) := by
  show Below _ _ _ ∧ _
  rw [hW1]
  exact ⟨(Below.refl _ w).alloc (Nat.le_refl _) _, lt_of_block (heap_alloc_new _ _)⟩
 have HSZ := Lib.hid hs
 have hE1 := Lib.hid (hE.below B1.out.1)
 clear hs hE
 rcases ty_read s with ⟨hr, hT⟩ | ⟨hr, k, b, r, e0, e1, e2, el, hT⟩
 ·have HR := Lib.hid hr
  have HT := Lib.hid hT
  clear hr hT
  go_enter Tryz.func170, Tryz.ntmps170
  go_wp2_with fail
  rw [← hW1]
  clear hW1
  refine (Check_no HT.out W1 hE1.out).mono ?_
  rintro e w2 ⟨rfl, hb⟩
  have B2 := Lib.hid (B1.out.1.trans (hb.mono B1.out.1.size))
  have T2 := Lib.hid ((hb.block _ (lt_of_block T1.out)).trans T1.out)
  have S2 := Lib.hid hb.size
  clear hb
  go_wp2_with fail
  refine (framed_any s HSZ.out w2).mono ?_
  rintro e w3 ⟨hb, (⟨i, v, hv, ht, hf, rfl⟩ | ⟨hf, rfl⟩)⟩
  ·have HF := Lib.hid ((firstL_iso s.data.toList [] rfl).1 i v (Nat.zero_le _) hv ht (fun j _ h => hf j h))
   have HV := Lib.hid (is_letter (firstL_split HF.out).2)
   have HVB := Lib.hid (show (((v.toNat : Int)) == 0) = false by
    have h1 := HV.out
    have h2 : v.toNat ≠ 0 := fun h => h1 (by apply UInt8.toNat_inj.1; simpa using h)
    simpa using h2)
   have HI := Lib.hid (show (s.extract 0 i).data.toList = s.data.toList.take i ∧ (s.extract (i + 1) s.size).data.toList = s.data.toList.drop (i + 1) by
    exact ⟨by rw [extract_toList, List.drop_zero], by rw [extract_toList, List.take_of_length_le (by rw [← size_eq]; exact Nat.le_refl _)]⟩)
   have B3 := Lib.hid (B2.out.trans (hb.mono (Nat.le_trans B1.out.1.size S2.out)))
   have T3 := Lib.hid ((hb.block _ (lt_of_block T2.out)).trans T2.out)
   have S3 := Lib.hid (Nat.le_trans S2.out hb.size)
   generalize s.extract 0 i = x at HI ⊢
   generalize s.extract (i + 1) s.size = y at HI ⊢
   clear hb hv ht hf
   obtain ⟨w4, hw4⟩ : ∃ w4, w4 = w3.alloc (.cells #[.string x, .string y] 268) := ⟨_, rfl⟩
   have T4 : Hid (w4.heap[w.heap.size]? = some (.cells #[.int .i64 0, .int .i64 0, .int .i32 0, .string ⟨#[]⟩] 125 (0, 0))) := by
    show w4.heap[_]? = _
    rw [hw4]
    exact ((new_below _ _).block _ (lt_of_block T3.out)).trans T3.out
   have F4 : Hid (w4.heap[w3.heap.size]? = some (.cells #[.string x, .string y] 268 (0, 0))) := by
    show w4.heap[_]? = _
    rw [hw4]
    exact heap_alloc_new _ _
   have B4 : Hid (Below w.heap.size w w4 ∧ w.heap.size ≤ w4.heap.size) := by
    show Below _ _ _ ∧ _
    rw [hw4]
    exact ⟨B3.out.trans ((new_below _ _).mono (by have := B3.out.size; omega)), Nat.le_trans B3.out.size (new_below w3 _).size⟩
   go_upto_region 4 with fail
   rw [← hw4]
   clear hw4
   generalize w3.heap.size = D at F4 ⊢
   obtain ⟨f0, f1, ff⟩ := cells2 F4.out
   have hvb := HVB.out
   go_wp2_with fail
   clear hvb
   refine (withVariable_any x y v w4).mono ?_
   rintro e w5 ⟨rfl, hb⟩
   have T5 := Lib.hid ((hb.block _ (lt_of_block T4.out)).trans T4.out)
   have B5 := Lib.hid (B4.out.1.trans (hb.mono B4.out.2))
   clear hb f0 f1 ff
   rw [HI.out.1, HI.out.2]
   have HRL := Lib.hid ((ruleOf_first HR.out).trans (byFirst_some HF.out))
   have HW := Lib.hid (withL_val (s.data.toList.take i) (s.data.toList.drop (i + 1)) v)
   generalize withL (s.data.toList.take i) (s.data.toList.drop (i + 1)) v = rr at HRL HW ⊢
   have hwv := HW.out
   rcases hwv with rfl | ⟨h0, h1, h2⟩
   ·have HRB := Lib.hid (show (ruleOf s).pval = .agg #[.int .i64 0, .int .i64 0, .int .i32 0, .string ⟨#[]⟩] by rw [HRL.out]; rfl)
    have e1 : Rule.bad.sortP = 0 := rfl
    have e2 : Rule.bad.clsP = 0 := rfl
    rw [e1, e2]
    clear e1 e2 HW HRL
    obtain ⟨w6, hw6⟩ : ∃ w6, w6 = w5.alloc (.cells #[.int .i64 0, .int .i64 0, .int .i32 0, .string ⟨#[]⟩] 125) := ⟨_, rfl⟩
    have T6 : Hid (w6.heap[w.heap.size]? = some (.cells #[.int .i64 0, .int .i64 0, .int .i32 0, .string ⟨#[]⟩] 125 (0, 0))) := by
     show w6.heap[_]? = _
     rw [hw6]
     exact ((new_below _ _).block _ (lt_of_block T5.out)).trans T5.out
    have F6 : Hid (w6.heap[w5.heap.size]? = some (.cells #[.int .i64 0, .int .i64 0, .int .i32 0, .string ⟨#[]⟩] 125 (0, 0))) := by
     show w6.heap[_]? = _
     rw [hw6]
     exact heap_alloc_new _ _
    have B6 : Hid (Below w.heap.size w w6 ∧ w.heap.size < w5.heap.size) := by
     show Below _ _ _ ∧ _
     rw [hw6]
     exact ⟨B5.out.trans ((new_below _ _).mono (by have := B5.out.size; omega)), lt_of_block T5.out⟩
    go_upto_region 7 with fail
    rw [← hw6]
    clear hw6
    generalize w5.heap.size = D2 at F6 B6 ⊢
    obtain ⟨f0, f1, f2, f3, ff⟩ := dcells4 F6.out
    obtain ⟨c0, c1, c2, c3, cf⟩ := dcells4 T6.out
    go_wp2_with fail
    refine bodyPost_ret (v := .agg #[.int .i64 0, .int .i64 0, .int .i32 0, .string ⟨#[]⟩]) (results_cell Tryz.results170 rfl (pruleVar (dset4_block T6.out))) rfl ?_
    exact ⟨by rw [HRB.out], dbelow_set4 B6.out.1 (Nat.le_refl _)⟩
   ·have HZ := Lib.hid (show (rr.sortP == 0) = false by simpa using h0)
    have HP := Lib.hid (show (ruleOf s).pval = .agg #[.int .i64 rr.sortP, .int .i64 rr.clsP, .int .i32 (v.toNat : Int), .string ⟨#[]⟩] by rw [HRL.out, Rule.pval, h1, h2])
    generalize rr.sortP = p at HZ HP ⊢
    generalize rr.clsP = q at HP ⊢
    clear h0 h1 h2 HW HRL
    obtain ⟨w6, hw6⟩ : ∃ w6, w6 = w5.alloc (.cells #[.int .i64 p, .int .i64 q, .int .i32 0, .string ⟨#[]⟩] 125) := ⟨_, rfl⟩
    have T6 : Hid (w6.heap[w.heap.size]? = some (.cells #[.int .i64 0, .int .i64 0, .int .i32 0, .string ⟨#[]⟩] 125 (0, 0))) := by
     show w6.heap[_]? = _
     rw [hw6]
     exact ((new_below _ _).block _ (lt_of_block T5.out)).trans T5.out
    have F6 : Hid (w6.heap[w5.heap.size]? = some (.cells #[.int .i64 p, .int .i64 q, .int .i32 0, .string ⟨#[]⟩] 125 (0, 0))) := by
     show w6.heap[_]? = _
     rw [hw6]
     exact heap_alloc_new _ _
    have B6 : Hid (Below w.heap.size w w6 ∧ w.heap.size < w5.heap.size) := by
     show Below _ _ _ ∧ _
     rw [hw6]
     exact ⟨B5.out.trans ((new_below _ _).mono (by have := B5.out.size; omega)), lt_of_block T5.out⟩
    go_upto_region 7 with fail
    rw [← hw6]
    clear hw6
    generalize w5.heap.size = D2 at F6 B6 ⊢
    obtain ⟨f0, f1, f2, f3, ff⟩ := dcells4 F6.out
    obtain ⟨c0, c1, c2, c3, cf⟩ := dcells4 T6.out
    have hz := HZ.out
    go_upto_region 9 with fail
    clear hz f0 f1 f2 f3 ff c0 c1 c2 c3 cf
    obtain ⟨w7, hw7⟩ : ∃ w7, w7 = w6.setCell ⟨D2, 2, none⟩ (.int .i32 (v.toNat : Int)) := ⟨_, rfl⟩
    have T7 : Hid (w7.heap[w.heap.size]? = some (.cells #[.int .i64 0, .int .i64 0, .int .i32 0, .string ⟨#[]⟩] 125 (0, 0))) := by
     show w7.heap[_]? = _
     rw [hw7]
     exact (heap_setCell_other _ _ _ _ (by have := B6.out.2; simp; omega)).trans T6.out
    have F7 : Hid (w7.heap[D2]? = some (.cells #[.int .i64 p, .int .i64 q, .int .i32 (v.toNat : Int), .string ⟨#[]⟩] 125 (0, 0))) := by
     show w7.heap[_]? = _
     rw [hw7]
     exact heap_setCell_same _ _ 2 _ _ _ F6.out
    have B7 : Hid (Below w.heap.size w w7) := by
     show Below _ _ _
     rw [hw7]
     exact B6.out.1.setCell (p := ⟨D2, 2, none⟩) (Nat.le_of_lt B6.out.2) _
    obtain ⟨f0, f1, f2, f3, ff⟩ := dcells4 F6.out
    go_upto_region 10 with fail
    rw [← hw7]
    clear hw7 f0 f1 f2 f3 ff
    obtain ⟨f0, f1, f2, f3, ff⟩ := dcells4 F7.out
    obtain ⟨c0, c1, c2, c3, cf⟩ := dcells4 T7.out
    go_wp2_with fail
    refine bodyPost_ret (v := .agg #[.int .i64 p, .int .i64 q, .int .i32 (v.toNat : Int), .string ⟨#[]⟩]) (results_cell Tryz.results170 rfl (pruleVar (dset4_block T7.out))) rfl ?_
    exact ⟨by rw [HP.out], dbelow_set4 B7.out (Nat.le_refl _)⟩
  ·have HF := Lib.hid ((firstL_iso s.data.toList [] rfl).2 (fun j _ h => hf j h))
   have B3 := Lib.hid (B2.out.trans (hb.mono (Nat.le_trans B1.out.1.size S2.out)))
   have T3 := Lib.hid ((hb.block _ (lt_of_block T2.out)).trans T2.out)
   clear hb hf
   obtain ⟨w4, hw4⟩ : ∃ w4, w4 = w3.alloc (.cells #[.string ⟨#[]⟩, .string ⟨#[]⟩] 268) := ⟨_, rfl⟩
   have T4 : Hid (w4.heap[w.heap.size]? = some (.cells #[.int .i64 0, .int .i64 0, .int .i32 0, .string ⟨#[]⟩] 125 (0, 0))) := by
    show w4.heap[_]? = _
    rw [hw4]
    exact ((new_below _ _).block _ (lt_of_block T3.out)).trans T3.out
   have B4 : Hid (Below w.heap.size w w4 ∧ w.heap.size ≤ w4.heap.size) := by
    show Below _ _ _ ∧ _
    rw [hw4]
    exact ⟨B3.out.trans ((new_below _ _).mono (by have := B3.out.size; omega)), Nat.le_trans B3.out.size (new_below w3 _).size⟩
   go_upto_region 4 with fail
   rw [← hw4]
   clear hw4
   go_wp2_with fail
   refine (withoutVariable_any s w4).mono ?_
   rintro e w5 ⟨rfl, hb⟩
   have T5 := Lib.hid ((hb.block _ (lt_of_block T4.out)).trans T4.out)
   have B5 := Lib.hid (B4.out.1.trans (hb.mono B4.out.2))
   clear hb
   have HP := Lib.hid (show (ruleOf s).pval = _ from (congrArg Rule.pval ((ruleOf_first HR.out).trans (byFirst_none HF.out))).trans (withoutL_val _))
   generalize (withoutL s.data.toList).sortP = p at HP ⊢
   generalize (withoutL s.data.toList).clsP = q at HP ⊢
   obtain ⟨c0, c1, c2, c3, cf⟩ := dcells4 T5.out
   go_wp2_with fail
   refine bodyPost_ret (v := .agg #[.int .i64 p, .int .i64 q, .int .i32 0, .string ⟨#[]⟩]) (results_cell Tryz.results170 rfl (pruleVar (dset4_block T5.out))) rfl ?_
   exact ⟨by rw [HP.out], dbelow_set4 B5.out (Nat.le_refl _)⟩
 ·have HP := Lib.hid (show (ruleOf s).pval = .agg #[.int .i64 1, .int .i64 0, .int .i32 0, .string s] by
   have e : ruleOf s = .fixed s := by unfold ruleOf; rw [if_pos hr]
   rw [e]; rfl)
  have HT := Lib.hid hT
  clear hr hT
  go_enter Tryz.func170, Tryz.ntmps170
  go_wp2_with fail
  rw [← hW1]
  clear hW1
  refine (Check_yes HT.out W1 hE1.out).mono ?_
  rintro e w2 ⟨rfl, hb⟩
  have B2 := Lib.hid (B1.out.1.trans (hb.mono B1.out.1.size))
  have T2 := Lib.hid ((hb.block _ (lt_of_block T1.out)).trans T1.out)
  clear hb
  obtain ⟨c0, c1, c2, c3, cf⟩ := dcells4 T2.out
  go_wp2_with fail
  refine bodyPost_ret (v := .agg #[.int .i64 1, .int .i64 0, .int .i32 0, .string s]) (results_cell Tryz.results170 rfl (pruleVar (dset4_block T2.out))) rfl ?_
  exact ⟨by rw [HP.out], dbelow_set4 B2.out (Nat.le_refl _)⟩
end Go.Proofs.YtgimdkgjfenafaaGreatDoor
namespace Go.Proofs.YtgimdkgjfenafaaGreatDoor
open Go.RowKit
def Rule.cells (r : Rule) : List Value := [.int .i64 r.sortP, .int .i64 r.clsP, .int .i32 (r.v.toNat : Int), .string r.textP]
theorem info_rule : InfoIs 125 4 := infoIs (by kernel_rfl)
def RulesAt (w : World) (ao : Option Addr) (rs : List Rule) : Prop := RowIs w ao rs.length (rs.flatMap Rule.cells)
structure RdS (w : World) (ss : List ByteArray) (j : Nat) (ao : Option Addr) (c : Nat) (W : World) : Prop where
 own : W.ownsRow w.heap.size 125 4 (.slice ao j c) j (((ss.take j).map ruleOf).flatMap Rule.cells)
 below : Below w.heap.size w W
def ReadRulesP (ss : List ByteArray) (w : World) (e : Ending) (w' : World) : Prop := ∃ ao c, e = .returned (.slice ao ss.length c) ∧ RulesAt (above w.heap.size w') ao (ss.map ruleOf) ∧ ss.length ≤ c ∧ Below w.heap.size w w'
set_option maxHeartbeats 4000000 in
set_option maxRecDepth 100000 in
theorem readRules_any (lo : Option Addr) (ss : List ByteArray) (lc : Nat) (hn : ss.length ≤ 1000) (hz : ∀ s ∈ ss, s.size ≤ 9223372036854775806) (w : World) (h : StrsAt w lo ss) (hE : Env w) : Calls Tryz.prog 153 #[.slice lo ss.length lc] w (ReadRulesP ss w) := by
 have H := Lib.hid h
 have HE := Lib.hid hE
 have HN := Lib.hid hn
 have HS := Lib.hid hz
 have hni : (ss.length : Int) ≤ 1000 := by omega
 clear h hE hn hz
 go_enter Tryz.func153, Tryz.ntmps153
 go_wp2_with fail
 go_loopw [3, 8] (fun ov iv wr => ∃ (j : Nat) (ao : Option Addr) (cp : Nat), j ≤ ss.length ∧ ov = .slice ao j cp ∧ iv = .int .i64 j ∧ Hid (RdS w ss j ao cp wr)) (fun _ iv _ => ss.length - (intOf iv).toNat)
 case atStart => exact ⟨0, none, 0, Nat.zero_le _, rfl, rfl, World.ownsRow_nil _ _ _ _, Below.refl _ _⟩
 case round =>
  obtain ⟨j, ao, cp, hj, rfl, rfl, HC⟩ := hrel
  by_cases hlt : j < ss.length
  rotate_left
  ·obtain rfl : j = ss.length := by omega
   clear hlt hj
   go_wp2_with fail
   go_ret
   have h1 := row_own (own_above HC.out.own)
   rw [List.take_length] at h1
   exact ⟨ao, cp, rfl, by unfold RulesAt; rw [List.length_map]; exact h1.1, h1.2, HC.out.below⟩
  rcases H.out with h0 | ⟨a, rfl, hc⟩
  ·rw [h0] at hlt; exact absurd hlt (Nat.not_lt_zero _)
  have hcm := (HC.out.below.cell (block_lt_of_cell (hc j hlt))).trans (hc j hlt)
  clear hc
  have hjs : ss[j]? = some (ss[j]?.getD ByteArray.empty) := by rw [List.getElem?_eq_getElem hlt]; rfl
  generalize ss[j]?.getD ByteArray.empty = t at hcm hjs
  have HT := Lib.hid (HS.out t (List.mem_of_getElem? hjs))
  have HJS := Lib.hid hjs
  have HJ := Lib.hid hlt
  have hji : (j : Int) < (ss.length : Int) := by omega
  clear hlt hj hjs
  go_wp2_with fail
  refine (readRule_any t HT.out wr (HE.out.below HC.out.below)).mono ?_
  rintro e w2 ⟨rfl, hb⟩
  have HB2 := Lib.hid hb
  have HX := Lib.hid (show ((ss.take (j + 1)).map ruleOf).flatMap Rule.cells = ((ss.take j).map ruleOf).flatMap Rule.cells ++ (ruleOf t).cells by rw [List.take_add_one, HJS.out]; simp)
  unfold Rule.pval
  unfold Rule.cells at HX
  generalize (ruleOf t).sortP = p at HX ⊢
  generalize (ruleOf t).clsP = q at HX ⊢
  generalize (ruleOf t).v = v at HX ⊢
  generalize (ruleOf t).textP = tx at HX ⊢
  have HOWN := Lib.hid (ownsRow_below HC.out.own HB2.out)
  have HBS := Lib.hid (Nat.le_trans HC.out.below.size HB2.out.size)
  have HNN := Lib.hid (show j ≤ 2000000 by have := HJ.out; have := HN.out; omega)
  clear hb hcm
  go_wp2_with (at_builtin; refine wp_append_own rfl 105 125 4 Tryz.underlying105 info_rule (by decide) _ _ rfl HOWN.out HBS.out HNN.out rfl rfl rfl rfl ?_; intro ao5 c5 w5 hown hbel hk; have HO5 := Lib.hid hown; have HB5 := Lib.hid hbel; clear hown hbel hk)
  go_roundw
  case rel => exact ⟨j + 1, ao5, c5, HJ.out, rfl, by go_num, by have e := HX.out; unfold Rule.cells; rw [e]; exact HO5.out, (HC.out.below.trans (HB2.out.mono HC.out.below.size)).trans HB5.out⟩
  case measure => have := HJ.out; simp only [intOf]; omega
end Go.Proofs.YtgimdkgjfenafaaGreatDoor
