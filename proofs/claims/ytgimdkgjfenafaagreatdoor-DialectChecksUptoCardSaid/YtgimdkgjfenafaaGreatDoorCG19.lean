import Derived.Test.YtgimdkgjfenafaaGreatDoorCG14
import Derived.Test.YtgimdkgjfenafaaGreatDoorCG13
import Derived.Test.YtgimdkgjfenafaaGreatDoorProg
import Derived.WalkKit
import Derived.WalkSpells
import Derived.WalkLawsBesides
import Derived.Lib.Hide
import Derived.Lib.ItoaNum
import Derived.BigQuiet
namespace Go.Proofs.YtgimdkgjfenafaaGreatDoor
open Go.RowKit Go.Shelf
attribute [local go_sem] Oper.semAt_some
structure Col (w : World) (es : List Int) (W : World) : Prop where
 box : ∃ ao c, W.heap[w.heap.size]? = some (.cells #[.slice ao es.length c] 56 (0, 0)) ∧ W.ownsRow (w.heap.size + 1) 3 1 (.slice ao es.length c) es.length (es.map (.int .i64))
 below : Below w.heap.size w W
 size : w.heap.size + 1 ≤ W.heap.size
theorem keeps_set {W w3 : World} {b : Nat} {cs : Array Value} {t : TypeId} {fr : Nat × Nat} (hk : KeepsOthers W w3) (hb : w3.heap[b]? = some (.cells cs t fr)) (v : Value) : KeepsOthers W (w3.setCell ⟨b, 0, none⟩ v) :=
 hk.trans ⟨by rw [setCell_size]; exact Nat.le_refl _, fun k o ho hc => by
  by_cases e : k = b
  ·subst e
   rw [hb] at ho
   cases ho
   cases hc
  ·exact (heap_setCell_other _ _ _ _ e).trans ho⟩
theorem IntsAt.put {w : World} {ao : Option Addr} {zs : List Int} {l : Nat} {o : Obj} (h : IntsAt w ao zs) (hl : w.heap[l]? = some o) (ho : o.isCells = false) (o' : Obj) : IntsAt (w.putObj l o') ao zs := by
 rcases h with h | ⟨a, rfl, hc⟩
 ·exact .inl h
 ·refine .inr ⟨a, rfl, fun j hj => ?_⟩
  have h1 := hc j hj
  have hne : (a.add j).block ≠ l := by
   intro e
   unfold World.cell? at h1
   rw [e, hl] at h1
   cases o <;> simp [Obj.isCells] at ho h1
  rw [← h1]
  unfold World.cell?
  rw [World.putObj_heap_other hne]
theorem exts_map (r : Nat) (x0 x1 x2 : Ext) : (exts r x0 x1 x2).map (·.1) = [x0.1, x1.1, x2.1].take r := by rw [exts, List.map_take]; rfl
end Go.Proofs.YtgimdkgjfenafaaGreatDoor

namespace Go.Proofs.YtgimdkgjfenafaaGreatDoor
open Go.RowKit
theorem add_strings (a b : ByteArray) (ha : a.size ≤ 4611686018427387904) (hb : b.size ≤ 4611686018427387903) (w : World) : (Op.stringOp .add a b).run Tryz.prog w = .ok (.string (a ++ b)) w :=
 run_string_add_sum w a b (by omega)
end Go.Proofs.YtgimdkgjfenafaaGreatDoor

namespace Go.Proofs.YtgimdkgjfenafaaGreatDoor
open Go.RowKit
theorem drawn_same {B : Nat} {a w : World} (h : Below B a w) (n : Nat) : Below B a (w.drewN n) := ⟨h.os, h.tape, h.output, h.size, h.block⟩
end Go.Proofs.YtgimdkgjfenafaaGreatDoor
namespace Go.Proofs.YtgimdkgjfenafaaGreatDoor
open Go.RowKit
def makeL (k : Int) (zs : List Int) (el : List UInt8) : Int × List UInt8 :=
 if numB el = false then (10, []) else if 4096 < prodL zs then (2, []) else (0, textHead k ++ zs.flatMap (fun x => Lib.itoa x ++ [120]) ++ el ++ [62])
theorem ext3_map (n : Nat) (z0 z1 z2 : Ext) : ext3 n z0 z1 z2 = (exts n z0 z1 z2).map (·.1) := by rw [exts_map]; rfl
theorem makeL_rest (k : Int) {n : Nat} (hn : n ≤ 3) (z0 z1 z2 : Ext) (el : List UInt8) : makeRest k n z0 z1 z2 el = makeL k (ext3 n z0 z1 z2) el := by
 unfold makeRest makeL textSpec extBytes
 rw [show prodL (ext3 n z0 z1 z2) = prodN n z0.1 z1.1 z2.1 from prodL_take hn, ext3_map, List.flatMap_map]
end Go.Proofs.YtgimdkgjfenafaaGreatDoor
