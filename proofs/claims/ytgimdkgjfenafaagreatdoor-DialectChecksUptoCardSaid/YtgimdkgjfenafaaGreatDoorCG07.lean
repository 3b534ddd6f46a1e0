import Derived.Test.YtgimdkgjfenafaaGreatDoorCG05
import Derived.Test.YtgimdkgjfenafaaGreatDoorProg
import Derived.WalkKit
import Derived.Lib.Split
import Derived.Deep.QuietTactic
import Derived.BigQuiet
import Derived.Maps.AppendAt
import Derived.Maps.Own
import Derived.Maps.OwnSet
import Derived.Maps.StringElems
import Derived.Maps.Views
namespace Go.Proofs.YtgimdkgjfenafaaGreatDoor
open Go.RowKit
section
variable {s el : ByteArray} {k b e0 e1 e2 : Int} {r : Nat}
set_option maxHeartbeats 400000 in
set_option maxRecDepth 100000 in
theorem shaped_no (h : NoTy s) (w : World) (hE : Env w) :
  Calls Tryz.prog 134 #[.string s] w fun e w' => e = .returned (.tuple #[.agg #[.int .i64 0, .int .i64 0, .int .i64 0, .int .i64 0, .int .i64 0, .int .i64 0, .string ⟨#[]⟩], .int .i64 10]) ∧ Below w.heap.size w w' := by
 have hE' := Lib.hid hE
 clear hE
 have HZ := Lib.hid (heap_alloc_new w (.cells #[.int .i64 0, .int .i64 0, .int .i64 0, .int .i64 0, .int .i64 0, .int .i64 0, .string ⟨#[]⟩] 205))
 have HB := Lib.hid ((Below.refl w.heap.size w).alloc (Nat.le_refl _) (.cells #[.int .i64 0, .int .i64 0, .int .i64 0, .int .i64 0, .int .i64 0, .int .i64 0, .string ⟨#[]⟩] 205))
 go_enter Tryz.func134, Tryz.ntmps134
 go_wp2_with fail
 refine (described_no s h _ (hE'.out.below HB.out)).mono ?_
 rintro e w1 ⟨rfl, hb1⟩
 have HB1 := Lib.hid (HB.out.trans (hb1.mono (by simp)))
 have Hr1 := Lib.hid ((hb1.block w.heap.size (by simp)).trans HZ.out)
 clear hb1
 have hsz1 := lt_of_block Hr1.out
 obtain ⟨c0, c1, c2, c3, c4, c5, c6, hfz⟩ := cells7 Hr1.out
 go_wp2_with fail
 refine bodyPost_ret (v := .tuple #[.agg #[.int .i64 0, .int .i64 0, .int .i64 0, .int .i64 0, .int .i64 0, .int .i64 0, .string ⟨#[]⟩], .int .i64 10]) (results_cell_tmp Tryz.results134 rfl rfl (descVar (read_back Hr1.out))) rfl ?_
 exact ⟨rfl, set7_alloc HB1.out (Nat.le_refl _) (Nat.le_refl _)⟩
set_option maxHeartbeats 400000 in
set_option maxRecDepth 100000 in
theorem shaped_arg (h : Ty s k b r e0 e1 e2 el) (hk : ¬ (k = 2 ∨ k = 3)) (w : World) (hE : Env w) :
  Calls Tryz.prog 134 #[.string s] w fun e w' => e = .returned (.tuple #[.agg #[.int .i64 0, .int .i64 0, .int .i64 0, .int .i64 0, .int .i64 0, .int .i64 0, .string ⟨#[]⟩], .int .i64 1]) ∧ Below w.heap.size w w' := by
 have hk2 : (k == 2 || k == 3) = false := by simpa using hk
 clear hk
 have hE' := Lib.hid hE
 clear hE
 have HZ := Lib.hid (heap_alloc_new w (.cells #[.int .i64 0, .int .i64 0, .int .i64 0, .int .i64 0, .int .i64 0, .int .i64 0, .string ⟨#[]⟩] 205))
 have HB := Lib.hid ((Below.refl w.heap.size w).alloc (Nat.le_refl _) (.cells #[.int .i64 0, .int .i64 0, .int .i64 0, .int .i64 0, .int .i64 0, .int .i64 0, .string ⟨#[]⟩] 205))
 go_enter Tryz.func134, Tryz.ntmps134
 go_wp2_with fail
 refine (described_yes h _ (hE'.out.below HB.out)).mono ?_
 rintro e w1 ⟨rfl, hb1⟩
 have HB1 := Lib.hid (HB.out.trans (hb1.mono (by simp)))
 have Hr1 := Lib.hid ((hb1.block w.heap.size (by simp)).trans HZ.out)
 clear hb1
 go_wp2_with fail
 refine (isShaped_any _ _ _ _ _ _ _ _).mono ?_
 rintro e w2 ⟨rfl, hw2⟩
 have HB2 : Hid (Below w.heap.size w w2) := by rw [← hw2]; exact (HB1.out.alloc HB1.out.size _).alloc (by have := HB1.out.size; simp; omega) _
 have Hr2 : Hid (w2.heap[w.heap.size]? = some (.cells #[.int .i64 0, .int .i64 0, .int .i64 0, .int .i64 0, .int .i64 0, .int .i64 0, .string ⟨#[]⟩] 205 (0, 0))) := by
  rw [← hw2]; exact (Below.heap_alloc _ _ _ (by have := lt_of_block Hr1.out; simp; omega)).trans ((Below.heap_alloc _ _ _ (lt_of_block Hr1.out)).trans Hr1.out)
 have Hd2 : Hid (w2.heap[w1.heap.size]? = some (.cells #[.int .i64 k, .int .i64 b, .int .i64 r, .int .i64 e0, .int .i64 e1, .int .i64 e2, .string el] 205 (0, 0))) := by
  rw [← hw2]; exact (Below.heap_alloc _ _ _ (by simp)).trans (heap_alloc_new _ _)
 clear hw2
 obtain ⟨c0, c1, c2, c3, c4, c5, c6, hfz⟩ := cells7 Hr2.out
 obtain ⟨d0, d1, d2, d3, d4, d5, d6, hfz2⟩ := cells7 Hd2.out
 rw [hk2]
 go_wp2_with fail
 refine bodyPost_ret (v := .tuple #[.agg #[.int .i64 0, .int .i64 0, .int .i64 0, .int .i64 0, .int .i64 0, .int .i64 0, .string ⟨#[]⟩], .int .i64 1]) (results_cell_tmp Tryz.results134 rfl rfl (descVar (set7_block Hr2.out))) rfl ?_
 exact ⟨rfl, set7_below HB2.out (Nat.le_refl _)⟩
set_option maxHeartbeats 400000 in
set_option maxRecDepth 100000 in
theorem shaped_yes (h : Ty s k b r e0 e1 e2 el) (hk : k = 2 ∨ k = 3) (w : World) (hE : Env w) :
  Calls Tryz.prog 134 #[.string s] w fun e w' => e = .returned (.tuple #[.agg #[.int .i64 k, .int .i64 b, .int .i64 r, .int .i64 e0, .int .i64 e1, .int .i64 e2, .string el], .int .i64 0]) ∧ Below w.heap.size w w' := by
 have hk2 : (k == 2 || k == 3) = true := by simpa using hk
 clear hk
 have hE' := Lib.hid hE
 clear hE
 have HZ := Lib.hid (heap_alloc_new w (.cells #[.int .i64 0, .int .i64 0, .int .i64 0, .int .i64 0, .int .i64 0, .int .i64 0, .string ⟨#[]⟩] 205))
 have HB := Lib.hid ((Below.refl w.heap.size w).alloc (Nat.le_refl _) (.cells #[.int .i64 0, .int .i64 0, .int .i64 0, .int .i64 0, .int .i64 0, .int .i64 0, .string ⟨#[]⟩] 205))
 go_enter Tryz.func134, Tryz.ntmps134
 go_wp2_with fail
 refine (described_yes h _ (hE'.out.below HB.out)).mono ?_
 rintro e w1 ⟨rfl, hb1⟩
 have HB1 := Lib.hid (HB.out.trans (hb1.mono (by simp)))
 have Hr1 := Lib.hid ((hb1.block w.heap.size (by simp)).trans HZ.out)
 clear hb1
 go_wp2_with fail
 refine (isShaped_any _ _ _ _ _ _ _ _).mono ?_
 rintro e w2 ⟨rfl, hw2⟩
 have HB2 : Hid (Below w.heap.size w w2) := by rw [← hw2]; exact (HB1.out.alloc HB1.out.size _).alloc (by have := HB1.out.size; simp; omega) _
 have Hr2 : Hid (w2.heap[w.heap.size]? = some (.cells #[.int .i64 0, .int .i64 0, .int .i64 0, .int .i64 0, .int .i64 0, .int .i64 0, .string ⟨#[]⟩] 205 (0, 0))) := by
  rw [← hw2]; exact (Below.heap_alloc _ _ _ (by have := lt_of_block Hr1.out; simp; omega)).trans ((Below.heap_alloc _ _ _ (lt_of_block Hr1.out)).trans Hr1.out)
 have Hd2 : Hid (w2.heap[w1.heap.size]? = some (.cells #[.int .i64 k, .int .i64 b, .int .i64 r, .int .i64 e0, .int .i64 e1, .int .i64 e2, .string el] 205 (0, 0))) := by
  rw [← hw2]; exact (Below.heap_alloc _ _ _ (by simp)).trans (heap_alloc_new _ _)
 clear hw2
 obtain ⟨c0, c1, c2, c3, c4, c5, c6, hfz⟩ := cells7 Hr2.out
 obtain ⟨d0, d1, d2, d3, d4, d5, d6, hfz2⟩ := cells7 Hd2.out
 rw [hk2]
 go_wp2_with fail
 refine bodyPost_ret (v := .tuple #[.agg #[.int .i64 k, .int .i64 b, .int .i64 r, .int .i64 e0, .int .i64 e1, .int .i64 e2, .string el], .int .i64 0]) (results_cell_tmp Tryz.results134 rfl rfl (descVar (set7_block Hr2.out))) rfl ?_
 exact ⟨rfl, set7_below HB2.out (Nat.le_refl _)⟩
set_option maxHeartbeats 400000 in
set_option maxRecDepth 100000 in
theorem Rank_no (h : NoTy s) (w : World) (hE : Env w) :
  Calls Tryz.prog 85 #[.string s] w fun e w' => e = .returned (.tuple #[.int .i64 0, .int .i64 10]) ∧ Below w.heap.size w w' := by
 have hE' := Lib.hid hE
 clear hE
 go_enter Tryz.func85, Tryz.ntmps85
 go_wp2_with fail
 refine (shaped_no h _ hE'.out).mono ?_
 rintro e w1 ⟨rfl, hb1⟩
 have HB1 := Lib.hid hb1
 clear hb1
 go_wp2_with fail
 go_ret2
 exact ⟨rfl, HB1.out.alloc HB1.out.size _⟩
set_option maxHeartbeats 400000 in
set_option maxRecDepth 100000 in
theorem Element_no (h : NoTy s) (w : World) (hE : Env w) :
  Calls Tryz.prog 92 #[.string s] w fun e w' => e = .returned (.tuple #[.string ⟨#[]⟩, .int .i64 10]) ∧ Below w.heap.size w w' := by
 have hE' := Lib.hid hE
 clear hE
 go_enter Tryz.func92, Tryz.ntmps92
 go_wp2_with fail
 refine (shaped_no h _ hE'.out).mono ?_
 rintro e w1 ⟨rfl, hb1⟩
 have HB1 := Lib.hid hb1
 clear hb1
 go_wp2_with fail
 go_ret2
 exact ⟨rfl, HB1.out.alloc HB1.out.size _⟩
set_option maxHeartbeats 400000 in
set_option maxRecDepth 100000 in
theorem Rank_arg (h : Ty s k b r e0 e1 e2 el) (hk : ¬ (k = 2 ∨ k = 3)) (w : World) (hE : Env w) :
  Calls Tryz.prog 85 #[.string s] w fun e w' => e = .returned (.tuple #[.int .i64 0, .int .i64 1]) ∧ Below w.heap.size w w' := by
 have hE' := Lib.hid hE
 clear hE
 go_enter Tryz.func85, Tryz.ntmps85
 go_wp2_with fail
 refine (shaped_arg h hk _ hE'.out).mono ?_
 rintro e w1 ⟨rfl, hb1⟩
 have HB1 := Lib.hid hb1
 clear hb1
 go_wp2_with fail
 go_ret2
 exact ⟨rfl, HB1.out.alloc HB1.out.size _⟩
set_option maxHeartbeats 400000 in
set_option maxRecDepth 100000 in
theorem Element_arg (h : Ty s k b r e0 e1 e2 el) (hk : ¬ (k = 2 ∨ k = 3)) (w : World) (hE : Env w) :
  Calls Tryz.prog 92 #[.string s] w fun e w' => e = .returned (.tuple #[.string ⟨#[]⟩, .int .i64 1]) ∧ Below w.heap.size w w' := by
 have hE' := Lib.hid hE
 clear hE
 go_enter Tryz.func92, Tryz.ntmps92
 go_wp2_with fail
 refine (shaped_arg h hk _ hE'.out).mono ?_
 rintro e w1 ⟨rfl, hb1⟩
 have HB1 := Lib.hid hb1
 clear hb1
 go_wp2_with fail
 go_ret2
 exact ⟨rfl, HB1.out.alloc HB1.out.size _⟩
set_option maxHeartbeats 400000 in
set_option maxRecDepth 100000 in
theorem Rank_yes (h : Ty s k b r e0 e1 e2 el) (hk : k = 2 ∨ k = 3) (w : World) (hE : Env w) :
  Calls Tryz.prog 85 #[.string s] w fun e w' => e = .returned (.tuple #[.int .i64 r, .int .i64 0]) ∧ Below w.heap.size w w' := by
 have hE' := Lib.hid hE
 clear hE
 go_enter Tryz.func85, Tryz.ntmps85
 go_wp2_with fail
 refine (shaped_yes h hk _ hE'.out).mono ?_
 rintro e w1 ⟨rfl, hb1⟩
 have HB1 := Lib.hid hb1
 clear hb1
 go_wp2_with fail
 go_ret2
 exact ⟨rfl, HB1.out.alloc HB1.out.size _⟩
set_option maxHeartbeats 400000 in
set_option maxRecDepth 100000 in
theorem Element_yes (h : Ty s k b r e0 e1 e2 el) (hk : k = 2 ∨ k = 3) (w : World) (hE : Env w) :
  Calls Tryz.prog 92 #[.string s] w fun e w' => e = .returned (.tuple #[.string el, .int .i64 0]) ∧ Below w.heap.size w w' := by
 have hE' := Lib.hid hE
 clear hE
 go_enter Tryz.func92, Tryz.ntmps92
 go_wp2_with fail
 refine (shaped_yes h hk _ hE'.out).mono ?_
 rintro e w1 ⟨rfl, hb1⟩
 have HB1 := Lib.hid hb1
 clear hb1
 go_wp2_with fail
 go_ret2
 exact ⟨rfl, HB1.out.alloc HB1.out.size _⟩
end
end Go.Proofs.YtgimdkgjfenafaaGreatDoor
namespace Go.Proofs.YtgimdkgjfenafaaGreatDoor
open Go.RowKit
def StrsAt (w : World) (ao : Option Addr) (ss : List ByteArray) : Prop := ss = [] ∨ ∃ a, ao = some a ∧ ∀ j, j < ss.length → w.cell? (a.add j) = some (.string (ss[j]?.getD ByteArray.empty))
theorem StrsAt.below {w w' : World} {ao : Option Addr} {ss : List ByteArray} (h : StrsAt w ao ss) (hb : Below w.heap.size w w') : StrsAt w' ao ss := by
 rcases h with h | ⟨a, rfl, hc⟩
 ·exact .inl h
 ·refine .inr ⟨a, rfl, fun j hj => ?_⟩
  have := hc j hj
  exact (hb.cell (block_lt_of_cell this)).trans this
theorem mx_cell {w : World} (hE : Env w) : ∃ m : Int, w.cell? ⟨0, 0, none⟩ = some (.int .i64 m) := by
 obtain ⟨m, hm⟩ := hE.mx
 exact ⟨m, by have := World.var?_cell g_mx hm 0; simpa using this⟩
end Go.Proofs.YtgimdkgjfenafaaGreatDoor
namespace Go.Proofs.YtgimdkgjfenafaaGreatDoor
open Go.RowKit
structure NeedD where
 name : ByteArray
 kind : Int
structure DefD where
 name : ByteArray
 ins : List ByteArray
 outs : List ByteArray
 needs : List NeedD
 regions : Int
 succs : Int
 traits : List ByteArray
structure DiaD where
 name : ByteArray
 types : List ByteArray
 ops : List DefD
def NeedD.cells (n : NeedD) : List Value := [.string n.name, .int .i64 n.kind]
structure DEl where
 d : DefD
 io : Option Addr
 ic : Nat
 oo : Option Addr
 oc : Nat
 no : Option Addr
 nc : Nat
 ko : Option Addr
 kc : Nat
def DEl.cells (e : DEl) : List Value := [.string e.d.name, .slice e.io e.d.ins.length e.ic, .slice e.oo e.d.outs.length e.oc, .slice e.no e.d.needs.length e.nc, .int .i64 e.d.regions, .int .i64 e.d.succs, .slice e.ko e.d.traits.length e.kc]
def RowIs (w : World) (ao : Option Addr) (n : Nat) (cs : List Value) : Prop := n = 0 ∨ ∃ bk o, ao = some ⟨bk, o, none⟩ ∧ ∀ j v, cs[j]? = some v → w.cell? ⟨bk, o + j, none⟩ = some v
theorem RowIs.below {w w' : World} {ao : Option Addr} {n : Nat} {cs : List Value} (h : RowIs w ao n cs) (hb : Below w.heap.size w w') : RowIs w' ao n cs := by
 rcases h with h | ⟨bk, o, rfl, hc⟩
 ·exact .inl h
 ·exact .inr ⟨bk, o, rfl, fun j v hv => (hb.cell (block_lt_of_cell (hc j v hv))).trans (hc j v hv)⟩
theorem row_cells {α : Type} {f : α → List Value} {k : Nat} (hf : ∀ x, (f x).length = k) {l : List α} {j : Nat} {x : α} (hj : l[j]? = some x) {i : Nat} {v : Value} (hv : (f x)[i]? = some v) : (l.flatMap f)[j * k + i]? = some v := by
 induction l generalizing j with
 | nil => cases hj
 | cons y l ih =>
  rw [List.flatMap_cons]
  cases j with
  | zero =>
   obtain rfl : y = x := Option.some.inj hj
   rw [Nat.zero_mul, Nat.zero_add, List.getElem?_append_left (List.getElem?_eq_some_iff.1 hv).1]
   exact hv
  | succ j =>
   rw [List.getElem?_append_right (by rw [hf]; rw [Nat.succ_mul]; omega), hf, show (j + 1) * k + i - k = j * k + i by rw [Nat.succ_mul]; omega]
   exact ih hj
theorem RowIs.at {α : Type} {f : α → List Value} {k : Nat} (hf : ∀ x, (f x).length = k) {w : World} {ao : Option Addr} {l : List α} (h : RowIs w ao l.length (l.flatMap f)) {j : Nat} {x : α} (hj : l[j]? = some x) :
  ∃ bk o, ao = some ⟨bk, o, none⟩ ∧ ∀ i v, (f x)[i]? = some v → w.cell? ⟨bk, o + j * k + i, none⟩ = some v := by
 rcases h with h | ⟨bk, o, e, hc⟩
 ·rw [List.eq_nil_of_length_eq_zero h] at hj; cases hj
 ·exact ⟨bk, o, e, fun i v hv => by rw [Nat.add_assoc]; exact hc _ _ (row_cells hf hj hv)⟩
def NeedsAt (w : World) (ao : Option Addr) (ns : List NeedD) : Prop := RowIs w ao ns.length (ns.flatMap NeedD.cells)
structure DefOK (w : World) (e : DEl) : Prop where
 ins : StrsAt w e.io e.d.ins
 outs : StrsAt w e.oo e.d.outs
 needs : NeedsAt w e.no e.d.needs
 traits : StrsAt w e.ko e.d.traits
 icap : e.d.ins.length ≤ e.ic
 ocap : e.d.outs.length ≤ e.oc
 ncap : e.d.needs.length ≤ e.nc
 kcap : e.d.traits.length ≤ e.kc
theorem DefOK.below {w w' : World} {e : DEl} (h : DefOK w e) (hb : Below w.heap.size w w') : DefOK w' e :=
 ⟨h.ins.below hb, h.outs.below hb, RowIs.below h.needs hb, h.traits.below hb, h.icap, h.ocap, h.ncap, h.kcap⟩
def DefsAt (w : World) (ao : Option Addr) (es : List DEl) : Prop := RowIs w ao es.length (es.flatMap DEl.cells) ∧ ∀ e ∈ es, DefOK w e
theorem DefsAt.below {w w' : World} {ao : Option Addr} {es : List DEl} (h : DefsAt w ao es) (hb : Below w.heap.size w w') : DefsAt w' ao es := ⟨h.1.below hb, fun e he => (h.2 e he).below hb⟩
structure XEl where
 name : ByteArray
 types : List ByteArray
 ops : List DEl
 yo : Option Addr
 yc : Nat
 po : Option Addr
 pc : Nat
def XEl.d (x : XEl) : DiaD := ⟨x.name, x.types, x.ops.map (·.d)⟩
def XEl.cells (x : XEl) : List Value := [.string x.name, .slice x.yo x.types.length x.yc, .slice x.po x.ops.length x.pc]
structure DiaOK (w : World) (x : XEl) : Prop where
 types : StrsAt w x.yo x.types
 ops : DefsAt w x.po x.ops
 ycap : x.types.length ≤ x.yc
 pcap : x.ops.length ≤ x.pc
theorem DiaOK.below {w w' : World} {x : XEl} (h : DiaOK w x) (hb : Below w.heap.size w w') : DiaOK w' x := ⟨h.types.below hb, h.ops.below hb, h.ycap, h.pcap⟩
def DiasAt (w : World) (ao : Option Addr) (xs : List XEl) : Prop := RowIs w ao xs.length (xs.flatMap XEl.cells) ∧ ∀ x ∈ xs, DiaOK w x
theorem DiasAt.below {w w' : World} {ao : Option Addr} {xs : List XEl} (h : DiasAt w ao xs) (hb : Below w.heap.size w w') : DiasAt w' ao xs := ⟨h.1.below hb, fun e he => (h.2 e he).below hb⟩
theorem at_row (g j : Nat) : (⟨g, 0, none⟩ : Addr).add j = ⟨g, j, none⟩ := by unfold Addr.add; split <;> simp_all
theorem in_row {w : World} {g k : Nat} {cs : Array Value} {T : TypeId} (h : w.heap[g]? = some (.cells cs T (0, 0))) : w.cell? ⟨g, k, none⟩ = cs[k]? := by simp [World.cell?, h]
def allocs (w : World) : List Obj → World
 | [] => w
 | o :: l => allocs (w.alloc o) l
theorem allocs_snoc (w : World) (l : List Obj) (o : Obj) : (allocs w l).alloc o = allocs w (l ++ [o]) := by
 induction l generalizing w with
 | nil => rfl
 | cons x l ih => exact ih (w.alloc x)
theorem allocs_below (w : World) (l : List Obj) : Below w.heap.size w (allocs w l) := by
 induction l generalizing w with
 | nil => exact Below.refl _ _
 | cons x l ih => exact ((Below.refl w.heap.size w).alloc (Nat.le_refl _) x).trans ((ih (w.alloc x)).mono (by simp))
theorem allocs_size (w : World) (l : List Obj) : (allocs w l).heap.size = w.heap.size + l.length := by
 induction l generalizing w with
 | nil => rfl
 | cons x l ih =>
  show (allocs (w.alloc x) l).heap.size = _
  rw [ih]
  simp
  omega
theorem allocs_get (w : World) (l : List Obj) (k : Nat) (o : Obj) (h : l[k]? = some o) : (allocs w l).heap[w.heap.size + k]? = some o := by
 induction l generalizing w k with
 | nil => cases h
 | cons x l ih =>
  show (allocs (w.alloc x) l).heap[_]? = _
  cases k with
  | zero =>
   obtain rfl : x = o := Option.some.inj h
   exact (((allocs_below (w.alloc x) l).block w.heap.size (by simp)).trans (heap_alloc_new w x))
  | succ k =>
   have := ih (w.alloc x) k h
   rw [show (w.alloc x).heap.size = w.heap.size + 1 by simp] at this
   rw [show w.heap.size + (k + 1) = w.heap.size + 1 + k by omega]
   exact this
end Go.Proofs.YtgimdkgjfenafaaGreatDoor
namespace Go.Proofs.YtgimdkgjfenafaaGreatDoor
open Go.RowKit Go.Shelf
attribute [local go_sem] Oper.semAt_some
def Keeps (w w' : World) : Prop := ∀ a v, w.cell? a = some v → w'.cell? a = some v
theorem Keeps.refl (w : World) : Keeps w w := fun _ _ h => h
theorem Keeps.trans {a b c : World} (h : Keeps a b) (h' : Keeps b c) : Keeps a c := fun x v hx => h' x v (h x v hx)
theorem Keeps.of_below {w w' : World} (h : Below w.heap.size w w') : Keeps w w' := fun _ _ hx => (h.cell (block_lt_of_cell hx)).trans hx
theorem strs_keeps {w w' : World} {ao : Option Addr} {ss : List ByteArray} (h : StrsAt w ao ss) (hk : Keeps w w') : StrsAt w' ao ss := by
 rcases h with h | ⟨a, rfl, hc⟩
 ·exact .inl h
 ·exact .inr ⟨a, rfl, fun j hj => hk _ _ (hc j hj)⟩
theorem RowIs.keeps {w w' : World} {ao : Option Addr} {n : Nat} {cs : List Value} (h : RowIs w ao n cs) (hk : Keeps w w') : RowIs w' ao n cs := by
 rcases h with h | ⟨bk, o, rfl, hc⟩
 ·exact .inl h
 ·exact .inr ⟨bk, o, rfl, fun j v hv => hk _ _ (hc j v hv)⟩
theorem DefOK.keeps {w w' : World} {e : DEl} (h : DefOK w e) (hb : Keeps w w') : DefOK w' e :=
 ⟨strs_keeps h.ins hb, strs_keeps h.outs hb, RowIs.keeps h.needs hb, strs_keeps h.traits hb, h.icap, h.ocap, h.ncap, h.kcap⟩
theorem DefsAt.keeps {w w' : World} {ao : Option Addr} {es : List DEl} (h : DefsAt w ao es) (hb : Keeps w w') : DefsAt w' ao es := ⟨h.1.keeps hb, fun e he => (h.2 e he).keeps hb⟩
theorem DiaOK.keeps {w w' : World} {x : XEl} (h : DiaOK w x) (hb : Keeps w w') : DiaOK w' x := ⟨strs_keeps h.types hb, h.ops.keeps hb, h.ycap, h.pcap⟩
theorem DiasAt.keeps {w w' : World} {ao : Option Addr} {xs : List XEl} (h : DiasAt w ao xs) (hb : Keeps w w') : DiasAt w' ao xs := ⟨h.1.keeps hb, fun e he => (h.2 e he).keeps hb⟩
theorem new_below (w : World) (o : Obj) : Below w.heap.size w (w.alloc o) := (Below.refl _ w).alloc (Nat.le_refl _) o
def mask (p : Nat → Bool) (w : World) : World := { w with heap := w.heap.mapIdx fun k o => if p k then o else .pending #[] 0 }
theorem mask_cell (p : Nat → Bool) (w : World) (a : Addr) : (mask p w).cell? a = if p a.block then w.cell? a else none := by
 unfold World.cell? mask
 simp only [Array.getElem?_mapIdx]
 cases w.heap[a.block]? with
 | none => simp
 | some o =>
  cases hp : p a.block <;> simp
theorem mask_keeps {p q : Nat → Bool} {w w' : World} (h : ∀ k, p k = true → k < w.heap.size → q k = true ∧ w'.heap[k]? = w.heap[k]?) : Keeps (mask p w) (mask q w') := by
 intro a v hx
 rw [mask_cell] at hx ⊢
 split at hx
 ·rename_i hp
  have hl := block_lt_of_cell hx
  obtain ⟨h1, h2⟩ := h _ hp hl
  rw [if_pos h1, World.cell?_of_block h2]
  exact hx
 ·cases hx
theorem mask_to {p : Nat → Bool} {w : World} : Keeps (mask p w) w := fun a v hx => by
 rw [mask_cell] at hx
 split at hx
 ·exact hx
 ·cases hx
def above (N : Nat) (w : World) : World := mask (fun k => decide (N ≤ k)) w
def own (ao : Option Addr) : Option Nat := ao.map (·.block)
def off (g : Option Nat) (w : World) : World := mask (fun k => decide (some k ≠ g)) w
theorem above_to {N : Nat} {w : World} : Keeps (above N w) w := mask_to
theorem off_to {g : Option Nat} {w : World} : Keeps (off g w) w := mask_to
theorem above_above {N M : Nat} {w : World} (h : N ≤ M) : Keeps (above M w) (above N w) := mask_keeps fun k hp _ => ⟨by simp only [decide_eq_true_eq] at hp ⊢; omega, rfl⟩
theorem above_off {N : Nat} {g : Option Nat} {w : World} (h : ∀ k, some k = g → k < N) : Keeps (above N w) (off g w) := mask_keeps fun k hp _ => ⟨by
 simp only [decide_eq_true_eq] at hp ⊢
 intro e
 have := h k e
 omega, rfl⟩
theorem above_below {N : Nat} {w w' : World} (h : Below w.heap.size w w') : Keeps (above N w) (above N w') := mask_keeps fun k hp hk => ⟨hp, h.block k hk⟩
theorem off_below {g : Option Nat} {w w' : World} (h : Below w.heap.size w w') : Keeps (off g w) (off g w') := mask_keeps fun k hp hk => ⟨hp, h.block k hk⟩
theorem own_block (ao : Option Addr) (n c : Nat) : (Value.slice ao n c).ownBlock = own ao := by cases ao <;> rfl
theorem own_lt' {w : World} {B : Nat} {E : TypeId} {sz : Nat} {ao : Option Addr} {n c : Nat} {xs : List Value} (h : w.ownsRow B E sz (.slice ao n c) n xs) : ∀ k, some k = own ao → B ≤ k ∧ k < w.heap.size := fun k e => h.lt k (by rw [own_block]; exact e.symm)
def InfoIs (E : TypeId) (sz : Nat) : Prop := ∃ i z, Tryz.prog.info? E = some i ∧ i.zero = some z ∧ i.size = sz ∧ z.cells.size = sz ∧ i.bytes ≤ 100000
theorem infoIs {E : TypeId} {sz : Nat} (h : (Tryz.prog.info? E).map (fun i => (i.zero.map (fun z => z.cells.size), i.size, decide (i.bytes ≤ 100000))) = some (some sz, sz, true)) : InfoIs E sz := by
 cases hi : Tryz.prog.info? E with
 | none => rw [hi] at h; cases h
 | some i =>
  rw [hi] at h
  simp only [Option.map_some, Option.some.injEq, Prod.mk.injEq] at h
  obtain ⟨h1, h2, h3⟩ := h
  cases hz : i.zero with
  | none => rw [hz] at h1; cases h1
  | some z =>
   rw [hz] at h1
   exact ⟨i, z, hi, hz, h2, Option.some.inj h1, of_decide_eq_true h3⟩
theorem append_own {T E ty : TypeId} {sz : Nat} (hT : Tryz.prog.underlying T = some (.slice E)) (hI : InfoIs E sz) (hsz : 0 < sz) {w : World} {B : Nat} {ao : Option Addr} {n c : Nat} {xs news : List Value} (h : w.ownsRow B E sz (.slice ao n c) n xs) (hB : B ≤ w.heap.size) (h3 : n ≤ 2000000)
  (hn : news.length = sz) (h1 : news.all Value.oneCell' = true) (T2 : TypeId) :
  ∃ ao' c' w', (Builtin.append_ #[T, T] ty #[.slice ao n c, .slice (some ⟨w.heap.size, 0, none⟩) 1 1]).run Tryz.prog (w.alloc (.cells news.toArray T2)) = .ok (.slice ao' (n + 1) c') w' ∧
   w'.ownsRow B E sz (.slice ao' (n + 1) c') (n + 1) (xs ++ news) ∧ Below B w w' ∧ Keeps (off (own ao) w) (off (own ao') w') := by
 obtain ⟨i, z, hi, hz, hs, hzs, hby⟩ := hI
 have hown : (w.alloc (.cells news.toArray T2)).ownsRow B E sz (.slice ao n c) n xs := by
  refine ⟨h.1, ?_⟩
  rcases h.2 with h | ⟨g, c', cur, hv, hb, hg, hr⟩
  ·exact .inl h
  ·exact .inr ⟨g, c', cur, hv, hb, (Below.heap_alloc _ _ _ (lt_of_block hg)).trans hg, hr⟩
 have hcell : ∀ j u, news[j]? = some u → (w.alloc (.cells news.toArray T2)).cell? ((⟨w.heap.size, 0, none⟩ : Addr).add j) = some u := by
  intro j u hj
  rw [at_row, in_row (heap_alloc_new _ _), List.getElem?_toArray]
  exact hj
 obtain ⟨v', w', hr, g1, g2, _, g4⟩ := run_append_own_at (P := Tryz.prog) (w.alloc (.cells news.toArray T2)) B T ty E i z sz i.bytes hT hi hz hs rfl hzs hsz
  (.slice ao n c) n xs hown ⟨w.heap.size, 0, none⟩ 1 1 news (by rw [hn, Nat.one_mul]) hcell (fun u hu => List.all_eq_true.1 h1 u hu) (by simp only [maxLen]; omega) (Nat.le_trans (Nat.mul_le_mul (show n + 1 ≤ 2000001 by omega) hby) (by decide)) (by simp; omega)
 obtain ⟨ao', c', rfl⟩ : ∃ ao' c', v' = .slice ao' (n + 1) c' := by
  rcases g1.2 with ⟨rfl, h0⟩ | ⟨g, cap, cur, rfl, _⟩
  ·exact ⟨none, 0, by rw [h0]⟩
  ·exact ⟨_, _, rfl⟩
 have hsz2 : w.heap.size ≤ w'.heap.size := by have := g2.size; simp at this; omega
 have hk : ∀ k, k < w.heap.size → some k ≠ own ao → w'.heap[k]? = w.heap[k]? := fun k hk hne =>
  (g2.block k (by simp; omega) (by rw [own_block]; exact hne)).trans (Below.heap_alloc _ _ _ (by omega))
 refine ⟨ao', c', w', hr, g1, ?_, mask_keeps fun k hp hkl => ?_⟩
 ·refine ⟨g2.os.trans rfl, g2.tape.trans rfl, g2.output.trans rfl, hsz2, fun k hkB => hk k (by omega) (fun e => ?_)⟩
  have := (own_lt' h k e).1
  omega
 ·have hp' : some k ≠ own ao := by simpa using hp
  refine ⟨?_, hk k hkl hp'⟩
  simp only [decide_eq_true_eq]
  intro e
  rw [own_block, own_block] at g4
  rcases g4 with g4 | g4
  ·rw [g4] at e
   exact hp' e
  ·rw [g4] at e
   simp at e
   omega
theorem wp_append_own {ops : Array Oper} {rest : List Oper} {o : Oper} {a : Act} {Q : Exit → Act → World → Prop} {w : World} (hgd : o.guard = none) (T E : TypeId) (sz : Nat) (hT : Tryz.prog.underlying T = some (.slice E)) (hI : InfoIs E sz) (hsz : 0 < sz) (s x : Operand)
  (ho : o.op = .call { callee := .builtin .append, args := #[s, x], argTypes := #[T, T] }) {B : Nat} {ao : Option Addr} {n c : Nat} {xs news : List Value} {T2 : TypeId}
  (h : w.ownsRow B E sz (.slice ao n c) n xs) (hB : B ≤ w.heap.size) (h3 : n ≤ 2000000) (hn : news.length = sz) (h1 : news.all Value.oneCell' = true) (hs : a.eval s = .slice ao n c) (hx : a.eval x = .slice (some ⟨w.heap.size, 0, none⟩) 1 1)
  (hk : ∀ ao' c' w', w'.ownsRow B E sz (.slice ao' (n + 1) c') (n + 1) (xs ++ news) → Below B w w' → Keeps (off (own ao) w) (off (own ao') w') → wpList Tryz.prog ops Q rest (a.put o.dst (.slice ao' (n + 1) c')) w') :
  wpList Tryz.prog ops Q (o :: rest) a (w.alloc (.cells news.toArray T2)) := by
 obtain ⟨ao', c', w', hr, g1, g2, g3⟩ := append_own (ty := o.type) hT hI hsz h hB h3 hn h1 T2
 refine wpList_plain hgd fun K hK => ?_
 unfold Oper.wp execOp
 simp only [ho, resolve, invoke, builtin, Sem.run_bind, Sem.run_pure, Result.andThen_ok, List.map_toArray, List.map_cons, List.map_nil, hs, hx, hr]
 exact hK _ _ (hk ao' c' w' g1 g2 g3)
theorem row_own {w : World} {B : Nat} {E : TypeId} {sz : Nat} {ao : Option Addr} {n c : Nat} {xs : List Value} (h : w.ownsRow B E sz (.slice ao n c) n xs) : RowIs w ao n xs ∧ n ≤ c := by
 rcases h.2 with ⟨hv, h0⟩ | ⟨g, cap, cur, hv, _, hg, hc, _, _, hcur⟩
 ·cases hv
  exact ⟨.inl h0, by omega⟩
 ·cases hv
  refine ⟨.inr ⟨_, _, rfl, fun j v hj => ?_⟩, hc⟩
  rw [Nat.zero_add, in_row hg]
  rw [← hcur] at hj
  rw [← Array.getElem?_toList]
  by_cases hl : j < n * sz
  ·rw [List.getElem?_take_of_lt hl] at hj
   exact hj
  ·rw [List.getElem?_eq_none (by rw [List.length_take]; omega)] at hj
   cases hj
theorem ownsRow_below {w w' : World} {B n sz : Nat} {e : TypeId} {v : Value} {xs : List Value} (h : w.ownsRow B e sz v n xs) (hb : Below w.heap.size w w') : w'.ownsRow B e sz v n xs := by
 refine ⟨h.1, ?_⟩
 rcases h.2 with h1 | ⟨g, cap, cur, h1, hB, hh, hx⟩
 ·exact .inl h1
 ·exact .inr ⟨g, cap, cur, h1, hB, (hb.block _ (lt_of_block hh)).trans hh, hx⟩
theorem sA {α : Type} {xs : List α} {i : Nat} (h : i < xs.toArray.size) : xs.toArray[i] = xs[i]'(by simpa using h) := rfl
theorem sB {α : Type} {a : α} {ys : List α} {i : Nat} (h : i + 1 < (a :: ys).length) : (a :: ys)[i + 1] = ys[i]'(Nat.lt_of_succ_lt_succ h) := rfl
theorem sC {α : Type} {a : α} {ys : List α} (h : 0 < (a :: ys).length) : (a :: ys)[0] = a := rfl
theorem sD {α : Type} (l : List α) (i : Nat) (a : α) : l.toArray.setIfInBounds i a = (l.set i a).toArray := List.setIfInBounds_toArray l i a
theorem sE {α : Type} (x a : α) (xs : List α) (n : Nat) : (x :: xs).set (n + 1) a = x :: xs.set n a := rfl
theorem sF {α : Type} (x a : α) (xs : List α) : (x :: xs).set 0 a = a :: xs := rfl
end Go.Proofs.YtgimdkgjfenafaaGreatDoor
namespace Go.Proofs.YtgimdkgjfenafaaGreatDoor
open Go.RowKit Go.Shelf
attribute [local go_sem] Oper.semAt_some
def setAt {α : Type} (f : Int → Option α) (x : Int) (v : α) : Int → Option α := fun y => if y = x then some v else f y
theorem setAt_same {α : Type} (f : Int → Option α) (x : Int) (v : α) : setAt f x v x = some v := if_pos rfl
theorem setAt_other {α : Type} (f : Int → Option α) {x y : Int} (v : α) (h : y ≠ x) : setAt f x v y = f y := if_neg h
theorem key_ne {q : IntKind} {x y : Int} (h : y ≠ x) : (Lit.int q y) ≠ (Lit.int q x) := fun e => h (by cases e; rfl)
def MapS (K E : TypeId) (q : IntKind) (w : World) (b c : Nat) (f : Int → Option ByteArray) : Prop :=
 ∃ (n : Nat) (D : DataW Unit), w.ownsMap Tryz.prog K (plainElem Tryz.prog E) b n D ∧ n ≤ c ∧ ∀ x, (Lit.int q x).wf = true → Maps.has D (.int q x) = (f x).isSome ∧ D.atKey (.int q x) (.lit (.string (⟨#[]⟩ : ByteArray).data.toList)) = .lit (.string (((f x).getD ⟨#[]⟩) : ByteArray).data.toList)
theorem MapS.made (K E : TypeId) (q : IntKind) (w : World) : MapS K E q (w.alloc (.map #[] 0)) w.heap.size 0 (fun _ => none) :=
 ⟨0, .map [], World.ownsMap_made _ _ _ _, Nat.le_refl _, fun _ _ => ⟨rfl, rfl⟩⟩
theorem MapS.kept {K E : TypeId} {q : IntKind} {w w' : World} {b c : Nat} {f : Int → Option ByteArray} {row : Option Nat} (h : MapS K E q w b c f) (hg : w.grownBy w' row) (hne : some b ≠ row) : MapS K E q w' b c f := by
 obtain ⟨n, D, h1, h2, h3⟩ := h
 exact ⟨n, D, h1.kept hg hne, h2, h3⟩
theorem MapS.below {K E : TypeId} {q : IntKind} {w w' : World} {b c : Nat} {f : Int → Option ByteArray} (h : MapS K E q w b c f) (hb : Below w.heap.size w w') : MapS K E q w' b c f := by
 obtain ⟨n, D, h1, h2, h3⟩ := h
 exact ⟨n, D, h1.kept (row := none) ⟨hb.os, hb.tape, hb.output, hb.size, fun k hk _ => hb.block k hk⟩ (by simp), h2, h3⟩
theorem MapS.lt {K E : TypeId} {q : IntKind} {w : World} {b c : Nat} {f : Int → Option ByteArray} (h : MapS K E q w b c f) : b < w.heap.size := by
 obtain ⟨n, D, h1, _⟩ := h
 exact h1.lt
section
variable {T K E : TypeId} {q : IntKind} {w : World} {b c : Nat} {f : Int → Option ByteArray}
theorem MapS.ok (h : MapS K E q w b c f) (hT : Tryz.prog.underlying T = some (.map K E)) (hK : Tryz.prog.underlying K = some (.int q)) (hE : Tryz.prog.underlying E = some .string) (hz : (zeroValue E).run Tryz.prog w = .ok (.string ⟨#[]⟩) w) {x : Int} (hx : (Lit.int q x).wf = true) :
  (Instr.lookup T (.map (some b)) (.int q x) true).run Tryz.prog w = .ok (.tuple #[.string ((f x).getD ⟨#[]⟩), .bool (f x).isSome]) w := by
 obtain ⟨n, D, h1, h2, h3⟩ := h
 obtain ⟨v, ps, hr, hv⟩ := h1.look_ok (Maps.int_keyed hK) hT hz (plainElem_string hE (by first | exact hv | decide)) (Maps.keyOf_int_mk hK hx)
 obtain ⟨e1, e2⟩ := h3 x hx
 rw [e2] at hv
 rw [hr, e1]
 obtain ⟨s, rfl, hs, _⟩ := plainElem_string_inv hE hv
 simp only [Prod.mk.injEq, DataW.lit.injEq, Lit.string.injEq] at hs
 have : s = ((f x).getD ⟨#[]⟩) := by
  apply ByteArray.ext
  exact Array.ext' hs.1.symm
 rw [this]
theorem MapS.get (h : MapS K E q w b c f) (hT : Tryz.prog.underlying T = some (.map K E)) (hK : Tryz.prog.underlying K = some (.int q)) (hE : Tryz.prog.underlying E = some .string) (hz : (zeroValue E).run Tryz.prog w = .ok (.string ⟨#[]⟩) w) {x : Int} (hx : (Lit.int q x).wf = true) :
  (Instr.lookup T (.map (some b)) (.int q x) false).run Tryz.prog w = .ok (.string ((f x).getD ⟨#[]⟩)) w := by
 obtain ⟨n, D, h1, h2, h3⟩ := h
 obtain ⟨v, ps, hr, hv⟩ := h1.lookup (Maps.int_keyed hK) hT hz (plainElem_string hE (by first | exact hv | decide)) (Maps.keyOf_int_mk hK hx)
 obtain ⟨e1, e2⟩ := h3 x hx
 rw [e2] at hv
 rw [hr]
 obtain ⟨s, rfl, hs, _⟩ := plainElem_string_inv hE hv
 simp only [Prod.mk.injEq, DataW.lit.injEq, Lit.string.injEq] at hs
 have : s = ((f x).getD ⟨#[]⟩) := by
  apply ByteArray.ext
  exact Array.ext' hs.1.symm
 rw [this]
theorem MapS.put (h : MapS K E q w b c f) (hT : Tryz.prog.underlying T = some (.map K E)) (hK : Tryz.prog.underlying K = some (.int q)) (hE : Tryz.prog.underlying E = some .string) (hc : c < 4611686018427387904) {x : Int} (hx : (Lit.int q x).wf = true) {v : ByteArray} (hv : v.size ≤ maxLen) :
  ∃ w', (Instr.mapUpdate T (.map (some b)) (.int q x) (.string v)).run Tryz.prog w = .ok () w' ∧ MapS K E q w' b (c + 1) (setAt f x v) ∧ w.grownBy w' (some b) := by
 obtain ⟨n, D, h1, h2, h3⟩ := h
 obtain ⟨w', hr, g1, g2⟩ := h1.update (Maps.int_keyed hK) hT (by unfold maxLen; omega) (Maps.keyOf_int_mk hK hx) (d := .lit (.string (v : ByteArray).data.toList)) (ps := []) (plainElem_string hE (by first | exact hv | decide))
 refine ⟨w', hr, ⟨n + 1, _, g1, by omega, fun y hy => ?_⟩, g2⟩
 by_cases e : y = x
 ·subst e
  rw [setAt_same]
  exact ⟨Maps.has_put_same h1.isMap (show WideAt.IsKeyLit (.int q y) from trivial) _, Maps.atKey_put_same h1.isMap (show WideAt.IsKeyLit (.int q y) from trivial) _ _⟩
 ·rw [setAt_other f v e]
  obtain ⟨e1, e2⟩ := h3 y hy
  exact ⟨(Maps.has_put_other (key_ne e) _).trans e1, (Maps.atKey_put_other (key_ne e) _ _).trans e2⟩
theorem MapS.wp_put {ops : Array Oper} {rest : List Oper} {o : Oper} {a : Act} {Q : Exit → Act → World → Prop} (hg : o.guard = none) (m x v : Operand) (T : TypeId) (hop : o.op = Op.mapUpdate T m x v) (h : MapS K E q w b c f) (hT : Tryz.prog.underlying T = some (.map K E)) (hK : Tryz.prog.underlying K = some (.int q)) (hE : Tryz.prog.underlying E = some .string) (hc : c < 4611686018427387904)
  {y : Int} (hy : (Lit.int q y).wf = true) {u : ByteArray} (hu : u.size ≤ maxLen) (hm : a.eval m = .map (some b)) (hx : a.eval x = .int q y) (hv : a.eval v = .string u)
  (hK' : ∀ w', MapS K E q w' b (c + 1) (setAt f y u) → w.grownBy w' (some b) → wpList Tryz.prog ops Q rest (a.put o.dst undef) w') : wpList Tryz.prog ops Q (o :: rest) a w := by
 refine wpList_plain hg fun J hJ => ?_
 obtain ⟨w', hr, r1, r2⟩ := h.put hT hK hE hc hy hu
 unfold Oper.wp
 simp [execOp, hop, hm, hx, hv, hr, Result.andThen]
 exact hJ _ _ (hK' w' r1 r2)
end
def MapI (K E : TypeId) (q : IntKind) (w : World) (b c : Nat) (f : Int → Option Int) : Prop :=
 ∃ (n : Nat) (D : DataW Unit), w.ownsMap Tryz.prog K (plainElem Tryz.prog E) b n D ∧ n ≤ c ∧ ∀ x, (Lit.int q x).wf = true → Maps.has D (.int q x) = (f x).isSome ∧ D.atKey (.int q x) (.lit (.int .i64 (0))) = .lit (.int .i64 (((f x).getD 0)))
theorem MapI.made (K E : TypeId) (q : IntKind) (w : World) : MapI K E q (w.alloc (.map #[] 0)) w.heap.size 0 (fun _ => none) :=
 ⟨0, .map [], World.ownsMap_made _ _ _ _, Nat.le_refl _, fun _ _ => ⟨rfl, rfl⟩⟩
theorem MapI.kept {K E : TypeId} {q : IntKind} {w w' : World} {b c : Nat} {f : Int → Option Int} {row : Option Nat} (h : MapI K E q w b c f) (hg : w.grownBy w' row) (hne : some b ≠ row) : MapI K E q w' b c f := by
 obtain ⟨n, D, h1, h2, h3⟩ := h
 exact ⟨n, D, h1.kept hg hne, h2, h3⟩
theorem MapI.below {K E : TypeId} {q : IntKind} {w w' : World} {b c : Nat} {f : Int → Option Int} (h : MapI K E q w b c f) (hb : Below w.heap.size w w') : MapI K E q w' b c f := by
 obtain ⟨n, D, h1, h2, h3⟩ := h
 exact ⟨n, D, h1.kept (row := none) ⟨hb.os, hb.tape, hb.output, hb.size, fun k hk _ => hb.block k hk⟩ (by simp), h2, h3⟩
theorem MapI.lt {K E : TypeId} {q : IntKind} {w : World} {b c : Nat} {f : Int → Option Int} (h : MapI K E q w b c f) : b < w.heap.size := by
 obtain ⟨n, D, h1, _⟩ := h
 exact h1.lt
section
variable {T K E : TypeId} {q : IntKind} {w : World} {b c : Nat} {f : Int → Option Int}
theorem MapI.ok (h : MapI K E q w b c f) (hT : Tryz.prog.underlying T = some (.map K E)) (hK : Tryz.prog.underlying K = some (.int q)) (hE : Tryz.prog.underlying E = some (.int .i64)) (hz : (zeroValue E).run Tryz.prog w = .ok (.int .i64 (0)) w) {x : Int} (hx : (Lit.int q x).wf = true) :
  (Instr.lookup T (.map (some b)) (.int q x) true).run Tryz.prog w = .ok (.tuple #[.int .i64 (((f x).getD 0)), .bool (f x).isSome]) w := by
 obtain ⟨n, D, h1, h2, h3⟩ := h
 obtain ⟨v, ps, hr, hv⟩ := h1.look_ok (Maps.int_keyed hK) hT hz (plainElem_int hE (by first | exact hv | decide)) (Maps.keyOf_int_mk hK hx)
 obtain ⟨e1, e2⟩ := h3 x hx
 rw [e2] at hv
 rw [hr, e1]
 obtain ⟨z, rfl, hs, _⟩ := plainElem_int_inv hE hv
 simp only [Prod.mk.injEq, DataW.lit.injEq, Lit.int.injEq, true_and] at hs
 rw [hs.1]
theorem MapI.get (h : MapI K E q w b c f) (hT : Tryz.prog.underlying T = some (.map K E)) (hK : Tryz.prog.underlying K = some (.int q)) (hE : Tryz.prog.underlying E = some (.int .i64)) (hz : (zeroValue E).run Tryz.prog w = .ok (.int .i64 (0)) w) {x : Int} (hx : (Lit.int q x).wf = true) :
  (Instr.lookup T (.map (some b)) (.int q x) false).run Tryz.prog w = .ok (.int .i64 (((f x).getD 0))) w := by
 obtain ⟨n, D, h1, h2, h3⟩ := h
 obtain ⟨v, ps, hr, hv⟩ := h1.lookup (Maps.int_keyed hK) hT hz (plainElem_int hE (by first | exact hv | decide)) (Maps.keyOf_int_mk hK hx)
 obtain ⟨e1, e2⟩ := h3 x hx
 rw [e2] at hv
 rw [hr]
 obtain ⟨z, rfl, hs, _⟩ := plainElem_int_inv hE hv
 simp only [Prod.mk.injEq, DataW.lit.injEq, Lit.int.injEq, true_and] at hs
 rw [hs.1]
theorem MapI.put (h : MapI K E q w b c f) (hT : Tryz.prog.underlying T = some (.map K E)) (hK : Tryz.prog.underlying K = some (.int q)) (hE : Tryz.prog.underlying E = some (.int .i64)) (hc : c < 4611686018427387904) {x : Int} (hx : (Lit.int q x).wf = true) {v : Int} (hv : (Lit.int .i64 v).wf = true) :
  ∃ w', (Instr.mapUpdate T (.map (some b)) (.int q x) (.int .i64 (v))).run Tryz.prog w = .ok () w' ∧ MapI K E q w' b (c + 1) (setAt f x v) ∧ w.grownBy w' (some b) := by
 obtain ⟨n, D, h1, h2, h3⟩ := h
 obtain ⟨w', hr, g1, g2⟩ := h1.update (Maps.int_keyed hK) hT (by unfold maxLen; omega) (Maps.keyOf_int_mk hK hx) (d := .lit (.int .i64 (v))) (ps := []) (plainElem_int hE (by first | exact hv | decide))
 refine ⟨w', hr, ⟨n + 1, _, g1, by omega, fun y hy => ?_⟩, g2⟩
 by_cases e : y = x
 ·subst e
  rw [setAt_same]
  exact ⟨Maps.has_put_same h1.isMap (show WideAt.IsKeyLit (.int q y) from trivial) _, Maps.atKey_put_same h1.isMap (show WideAt.IsKeyLit (.int q y) from trivial) _ _⟩
 ·rw [setAt_other f v e]
  obtain ⟨e1, e2⟩ := h3 y hy
  exact ⟨(Maps.has_put_other (key_ne e) _).trans e1, (Maps.atKey_put_other (key_ne e) _ _).trans e2⟩
theorem MapI.wp_put {ops : Array Oper} {rest : List Oper} {o : Oper} {a : Act} {Q : Exit → Act → World → Prop} (hg : o.guard = none) (m x v : Operand) (T : TypeId) (hop : o.op = Op.mapUpdate T m x v) (h : MapI K E q w b c f) (hT : Tryz.prog.underlying T = some (.map K E)) (hK : Tryz.prog.underlying K = some (.int q)) (hE : Tryz.prog.underlying E = some (.int .i64)) (hc : c < 4611686018427387904)
  {y : Int} (hy : (Lit.int q y).wf = true) {u : Int} (hu : (Lit.int .i64 u).wf = true) (hm : a.eval m = .map (some b)) (hx : a.eval x = .int q y) (hv : a.eval v = .int .i64 (u))
  (hK' : ∀ w', MapI K E q w' b (c + 1) (setAt f y u) → w.grownBy w' (some b) → wpList Tryz.prog ops Q rest (a.put o.dst undef) w') : wpList Tryz.prog ops Q (o :: rest) a w := by
 refine wpList_plain hg fun J hJ => ?_
 obtain ⟨w', hr, r1, r2⟩ := h.put hT hK hE hc hy hu
 unfold Oper.wp
 simp [execOp, hop, hm, hx, hv, hr, Result.andThen]
 exact hJ _ _ (hK' w' r1 r2)
end
end Go.Proofs.YtgimdkgjfenafaaGreatDoor
