import Derived.Test.YtgimdkgjfenafaaGreatDoorCG09
import Derived.Test.YtgimdkgjfenafaaGreatDoorCG03
import Derived.Deep.Cut
import Derived.Deep.CutBlock
import Derived.Deep.DeepCutAuto
namespace Go.Proofs.YtgimdkgjfenafaaGreatDoor
open Go.RowKit
theorem set3_block {w : World} {b : Nat} {T : TypeId} {v0 v1 v2 u0 u1 u2 : Value} (h : w.heap[b]? = some (.cells #[v0, v1, v2] T (0, 0))) :
  (((w.setCell ⟨b, 0, none⟩ u0).setCell ⟨b, 1, none⟩ u1).setCell ⟨b, 2, none⟩ u2).heap[b]? = some (.cells #[u0, u1, u2] T (0, 0)) := by
 have h0 := heap_setCell_same _ b 0 _ T u0 h
 have h1 := heap_setCell_same _ b 1 _ T u1 h0
 have h2 := heap_setCell_same _ b 2 _ T u2 h1
 rw [h2]
 rfl
theorem set3_other {w : World} {b k : Nat} {u0 u1 u2 : Value} (h : k ≠ b) : (((w.setCell ⟨b, 0, none⟩ u0).setCell ⟨b, 1, none⟩ u1).setCell ⟨b, 2, none⟩ u2).heap[k]? = w.heap[k]? := by
 rw [heap_setCell_other _ _ _ _ h, heap_setCell_other _ _ _ _ h, heap_setCell_other _ _ _ _ h]
theorem below_set3 {B : Nat} {w W : World} (h : Below B w W) {b : Nat} (hb : B ≤ b) {u0 u1 u2 : Value} : Below B w (((W.setCell ⟨b, 0, none⟩ u0).setCell ⟨b, 1, none⟩ u1).setCell ⟨b, 2, none⟩ u2) :=
 ((h.setCell (p := ⟨b, 0, none⟩) hb _).setCell (p := ⟨b, 1, none⟩) hb _).setCell (p := ⟨b, 2, none⟩) hb _
theorem above_set3 {N b : Nat} {w : World} (hb : b < N) {u0 u1 u2 : Value} : Keeps (above N w) (above b (((w.setCell ⟨b, 0, none⟩ u0).setCell ⟨b, 1, none⟩ u1).setCell ⟨b, 2, none⟩ u2)) :=
 mask_keeps fun k hp _ => by
  simp only [decide_eq_true_eq] at hp ⊢
  exact ⟨by omega, set3_other (by omega)⟩
theorem cells3 {w : World} {b : Nat} {T : TypeId} {v0 v1 v2 : Value} (h : w.heap[b]? = some (.cells #[v0, v1, v2] T (0, 0))) :
  w.cell? ⟨b, 0, none⟩ = some v0 ∧ w.cell? ⟨b, 1, none⟩ = some v1 ∧ w.cell? ⟨b, 2, none⟩ = some v2 ∧ ∀ j, w.frozen? ⟨b, j, none⟩ = false := by
 refine ⟨?_, ?_, ?_, fun j => ?_⟩ <;> simp [World.cell?, World.frozen?, h]
theorem diaVar {w : World} {b : Nat} {v0 v1 v2 : Value} (h : w.heap[b]? = some (.cells #[v0, v1, v2] 90 (0, 0))) :
  (loadVar 90 ⟨b, 0, none⟩).run Tryz.prog w = .ok (.agg #[v0, v1, v2]) w :=
 run_loadVar_row w b _ _ _ _ _ h Tryz.underlying90 rfl (by kernel_rfl)
def coreTab : List (List UInt8 × List DefD) := [([97, 114, 105, 116, 104], arithD), ([97, 114, 114], arrD), ([99, 102], cfD), ([102, 117, 110, 99], funcD), ([105, 111], ioD), ([109, 101, 109], memD), ([115, 99, 102], scfD)]
def coreFind (nm : ByteArray) : Option (List DefD) := (coreTab.find? fun x => nm.toList == x.1).map (·.2)
def CoreDPost (nm : ByteArray) (w : World) (e : Ending) (w' : World) : Prop := Below w.heap.size w w' ∧
 ((∃ (ds : List DefD) (es : List DEl) (po : Option Addr) (pc : Nat), coreFind nm = some ds ∧ es.map (·.d) = ds ∧ DefsAt (above w.heap.size w') po es ∧ es.length ≤ pc ∧ e = .returned (.tuple #[.agg #[.string nm, .slice none 0 0, .slice po es.length pc], .bool true])) ∨
  (coreFind nm = none ∧ e = .returned (.tuple #[.agg #[.string ⟨#[]⟩, .slice none 0 0, .slice none 0 0], .bool false])))
set_option maxHeartbeats 4000000 in
set_option maxRecDepth 100000 in
theorem coreDialect_any (nm : ByteArray) (w : World) : Calls Tryz.prog 67 #[.string nm] w (CoreDPost nm w) := by
 obtain ⟨W1, hW1⟩ : ∃ W1, W1 = w.alloc (.cells #[.string ⟨#[]⟩, .slice none 0 0, .slice none 0 0] 90) := ⟨_, rfl⟩
 have T1 : Hid (W1.heap[w.heap.size]? = some (.cells #[.string ⟨#[]⟩, .slice none 0 0, .slice none 0 0] 90 (0, 0))) := by
  show W1.heap[w.heap.size]? = _
  rw [hW1]
  exact heap_alloc_new _ _
 have B1 : Hid (Below w.heap.size w W1 ∧ w.heap.size < W1.heap.size) := by
  show Below _ _ _ ∧ _
  rw [hW1]
  exact ⟨(Below.refl _ w).alloc (Nat.le_refl _) _, by simp⟩
 cases h0 : (nm.toList == [97, 114, 105, 116, 104])
 rotate_left
 ·have HF := Lib.hid (show coreFind nm = some arithD by simp only [coreFind, coreTab, List.find?_cons, h0]; rfl)
  go_enter Tryz.func67, Tryz.ntmps67
  go_wp2_with fail
  rw [← hW1]
  refine (arithTable_any W1).mono ?_
  rintro e w2 ⟨es, po, pc, rfl, hd, hl, hc, hb⟩
  have T2 := Lib.hid ((hb.block _ (lt_of_block T1.out)).trans T1.out)
  have B2 := Lib.hid (B1.out.1.trans (hb.mono B1.out.1.size))
  have HD := Lib.hid hd
  have HL := Lib.hid (hl.keeps (above_set3 (u0 := .string nm) (u1 := .slice none 0 0) (u2 := .slice po es.length pc) B1.out.2))
  have HC := Lib.hid hc
  obtain ⟨c0, c1, c2, cf⟩ := cells3 T2.out
  clear hW1 hd hl hc hb
  go_wp2_with fail
  refine bodyPost_ret (v := .tuple #[.agg #[.string nm, .slice none 0 0, .slice po es.length pc], .bool true]) (results_cell_tmp Tryz.results67 rfl rfl (diaVar (set3_block T2.out))) rfl ?_
  exact ⟨below_set3 B2.out (Nat.le_refl _), .inl ⟨_, es, po, pc, HF.out, HD.out, HL.out, HC.out, rfl⟩⟩
 cases h1 : (nm.toList == [97, 114, 114])
 rotate_left
 ·have HF := Lib.hid (show coreFind nm = some arrD by simp only [coreFind, coreTab, List.find?_cons, h0, h1]; rfl)
  go_enter Tryz.func67, Tryz.ntmps67
  go_wp2_with fail
  rw [← hW1]
  refine (arrTable_any W1).mono ?_
  rintro e w2 ⟨es, po, pc, rfl, hd, hl, hc, hb⟩
  have T2 := Lib.hid ((hb.block _ (lt_of_block T1.out)).trans T1.out)
  have B2 := Lib.hid (B1.out.1.trans (hb.mono B1.out.1.size))
  have HD := Lib.hid hd
  have HL := Lib.hid (hl.keeps (above_set3 (u0 := .string nm) (u1 := .slice none 0 0) (u2 := .slice po es.length pc) B1.out.2))
  have HC := Lib.hid hc
  obtain ⟨c0, c1, c2, cf⟩ := cells3 T2.out
  clear hW1 hd hl hc hb
  go_wp2_with fail
  refine bodyPost_ret (v := .tuple #[.agg #[.string nm, .slice none 0 0, .slice po es.length pc], .bool true]) (results_cell_tmp Tryz.results67 rfl rfl (diaVar (set3_block T2.out))) rfl ?_
  exact ⟨below_set3 B2.out (Nat.le_refl _), .inl ⟨_, es, po, pc, HF.out, HD.out, HL.out, HC.out, rfl⟩⟩
 cases h2 : (nm.toList == [99, 102])
 rotate_left
 ·have HF := Lib.hid (show coreFind nm = some cfD by simp only [coreFind, coreTab, List.find?_cons, h0, h1, h2]; rfl)
  go_enter Tryz.func67, Tryz.ntmps67
  go_wp2_with fail
  rw [← hW1]
  refine (cfTable_any W1).mono ?_
  rintro e w2 ⟨es, po, pc, rfl, hd, hl, hc, hb⟩
  have T2 := Lib.hid ((hb.block _ (lt_of_block T1.out)).trans T1.out)
  have B2 := Lib.hid (B1.out.1.trans (hb.mono B1.out.1.size))
  have HD := Lib.hid hd
  have HL := Lib.hid (hl.keeps (above_set3 (u0 := .string nm) (u1 := .slice none 0 0) (u2 := .slice po es.length pc) B1.out.2))
  have HC := Lib.hid hc
  obtain ⟨c0, c1, c2, cf⟩ := cells3 T2.out
  clear hW1 hd hl hc hb
  go_wp2_with fail
  refine bodyPost_ret (v := .tuple #[.agg #[.string nm, .slice none 0 0, .slice po es.length pc], .bool true]) (results_cell_tmp Tryz.results67 rfl rfl (diaVar (set3_block T2.out))) rfl ?_
  exact ⟨below_set3 B2.out (Nat.le_refl _), .inl ⟨_, es, po, pc, HF.out, HD.out, HL.out, HC.out, rfl⟩⟩
 cases h3 : (nm.toList == [102, 117, 110, 99])
 rotate_left
 ·have HF := Lib.hid (show coreFind nm = some funcD by simp only [coreFind, coreTab, List.find?_cons, h0, h1, h2, h3]; rfl)
  go_enter Tryz.func67, Tryz.ntmps67
  go_wp2_with fail
  rw [← hW1]
  refine (funcTable_any W1).mono ?_
  rintro e w2 ⟨es, po, pc, rfl, hd, hl, hc, hb⟩
  have T2 := Lib.hid ((hb.block _ (lt_of_block T1.out)).trans T1.out)
  have B2 := Lib.hid (B1.out.1.trans (hb.mono B1.out.1.size))
  have HD := Lib.hid hd
  have HL := Lib.hid (hl.keeps (above_set3 (u0 := .string nm) (u1 := .slice none 0 0) (u2 := .slice po es.length pc) B1.out.2))
  have HC := Lib.hid hc
  obtain ⟨c0, c1, c2, cf⟩ := cells3 T2.out
  clear hW1 hd hl hc hb
  go_wp2_with fail
  refine bodyPost_ret (v := .tuple #[.agg #[.string nm, .slice none 0 0, .slice po es.length pc], .bool true]) (results_cell_tmp Tryz.results67 rfl rfl (diaVar (set3_block T2.out))) rfl ?_
  exact ⟨below_set3 B2.out (Nat.le_refl _), .inl ⟨_, es, po, pc, HF.out, HD.out, HL.out, HC.out, rfl⟩⟩
 cases h4 : (nm.toList == [105, 111])
 rotate_left
 ·have HF := Lib.hid (show coreFind nm = some ioD by simp only [coreFind, coreTab, List.find?_cons, h0, h1, h2, h3, h4]; rfl)
  go_enter Tryz.func67, Tryz.ntmps67
  go_wp2_with fail
  rw [← hW1]
  refine (ioTable_any W1).mono ?_
  rintro e w2 ⟨es, po, pc, rfl, hd, hl, hc, hb⟩
  have T2 := Lib.hid ((hb.block _ (lt_of_block T1.out)).trans T1.out)
  have B2 := Lib.hid (B1.out.1.trans (hb.mono B1.out.1.size))
  have HD := Lib.hid hd
  have HL := Lib.hid (hl.keeps (above_set3 (u0 := .string nm) (u1 := .slice none 0 0) (u2 := .slice po es.length pc) B1.out.2))
  have HC := Lib.hid hc
  obtain ⟨c0, c1, c2, cf⟩ := cells3 T2.out
  clear hW1 hd hl hc hb
  go_wp2_with fail
  refine bodyPost_ret (v := .tuple #[.agg #[.string nm, .slice none 0 0, .slice po es.length pc], .bool true]) (results_cell_tmp Tryz.results67 rfl rfl (diaVar (set3_block T2.out))) rfl ?_
  exact ⟨below_set3 B2.out (Nat.le_refl _), .inl ⟨_, es, po, pc, HF.out, HD.out, HL.out, HC.out, rfl⟩⟩
 cases h5 : (nm.toList == [109, 101, 109])
 rotate_left
 ·have HF := Lib.hid (show coreFind nm = some memD by simp only [coreFind, coreTab, List.find?_cons, h0, h1, h2, h3, h4, h5]; rfl)
  go_enter Tryz.func67, Tryz.ntmps67
  go_wp2_with fail
  rw [← hW1]
  refine (memTable_any W1).mono ?_
  rintro e w2 ⟨es, po, pc, rfl, hd, hl, hc, hb⟩
  have T2 := Lib.hid ((hb.block _ (lt_of_block T1.out)).trans T1.out)
  have B2 := Lib.hid (B1.out.1.trans (hb.mono B1.out.1.size))
  have HD := Lib.hid hd
  have HL := Lib.hid (hl.keeps (above_set3 (u0 := .string nm) (u1 := .slice none 0 0) (u2 := .slice po es.length pc) B1.out.2))
  have HC := Lib.hid hc
  obtain ⟨c0, c1, c2, cf⟩ := cells3 T2.out
  clear hW1 hd hl hc hb
  go_wp2_with fail
  refine bodyPost_ret (v := .tuple #[.agg #[.string nm, .slice none 0 0, .slice po es.length pc], .bool true]) (results_cell_tmp Tryz.results67 rfl rfl (diaVar (set3_block T2.out))) rfl ?_
  exact ⟨below_set3 B2.out (Nat.le_refl _), .inl ⟨_, es, po, pc, HF.out, HD.out, HL.out, HC.out, rfl⟩⟩
 cases h6 : (nm.toList == [115, 99, 102])
 rotate_left
 ·have HF := Lib.hid (show coreFind nm = some scfD by simp only [coreFind, coreTab, List.find?_cons, h0, h1, h2, h3, h4, h5, h6]; rfl)
  go_enter Tryz.func67, Tryz.ntmps67
  go_wp2_with fail
  rw [← hW1]
  refine (scfTable_any W1).mono ?_
  rintro e w2 ⟨es, po, pc, rfl, hd, hl, hc, hb⟩
  have T2 := Lib.hid ((hb.block _ (lt_of_block T1.out)).trans T1.out)
  have B2 := Lib.hid (B1.out.1.trans (hb.mono B1.out.1.size))
  have HD := Lib.hid hd
  have HL := Lib.hid (hl.keeps (above_set3 (u0 := .string nm) (u1 := .slice none 0 0) (u2 := .slice po es.length pc) B1.out.2))
  have HC := Lib.hid hc
  obtain ⟨c0, c1, c2, cf⟩ := cells3 T2.out
  clear hW1 hd hl hc hb
  go_wp2_with fail
  refine bodyPost_ret (v := .tuple #[.agg #[.string nm, .slice none 0 0, .slice po es.length pc], .bool true]) (results_cell_tmp Tryz.results67 rfl rfl (diaVar (set3_block T2.out))) rfl ?_
  exact ⟨below_set3 B2.out (Nat.le_refl _), .inl ⟨_, es, po, pc, HF.out, HD.out, HL.out, HC.out, rfl⟩⟩
 have HF := Lib.hid (show coreFind nm = none by simp only [coreFind, coreTab, List.find?_cons, List.find?_nil, h0, h1, h2, h3, h4, h5, h6]; rfl)
 obtain ⟨c0, c1, c2, cf⟩ := cells3 T1.out
 go_enter Tryz.func67, Tryz.ntmps67
 go_upto_block 0 with fail
 rw [← hW1]
 clear hW1
 go_wp2_with fail
 refine bodyPost_ret (v := .tuple #[.agg #[.string ⟨#[]⟩, .slice none 0 0, .slice none 0 0], .bool false]) (results_cell_tmp Tryz.results67 rfl rfl (diaVar (set3_block T1.out))) rfl ?_
 exact ⟨below_set3 B1.out.1 (Nat.le_refl _), .inr ⟨HF.out, rfl⟩⟩
end Go.Proofs.YtgimdkgjfenafaaGreatDoor
