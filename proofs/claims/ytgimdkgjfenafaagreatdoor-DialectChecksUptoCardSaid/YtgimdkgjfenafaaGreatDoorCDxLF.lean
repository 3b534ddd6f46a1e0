import Derived.Test.YtgimdkgjfenafaaGreatDoorCG37
import Derived.Test.YtgimdkgjfenafaaGreatDoorCG14
import Derived.Test.YtgimdkgjfenafaaGreatDoorCG07
import Derived.SliceStrings
import Derived.ChangeSlices
import Derived.Test.YtgimdkgjfenafaaGreatDoorCJDxTT
import Derived.Deep.SlicePairs
import Derived.Deep.Slices
import Derived.Test.YtgimdkgjfenafaaGreatDoorCDxPD
namespace Go.Proofs.YtgimdkgjfenafaaGreatDoor
open Go.ChangeShapes Go.WideShapes Go.ChangeAt Go.RowKit
theorem short {H : Type} {s : ByteArray} (hk : Rows.uptoSmall H [.lit (.string s.data.toList)] = true) : s.size ≤ 1048576 := by
 have h : Rows.uptoBulkAll [DataW.lit (H := H) (.string s.data.toList)] ≤ 1048576 := of_decide_eq_true hk
 simp only [Rows.uptoBulkAll, Rows.uptoBulk] at h
 rw [size_eq]
 omega
end Go.Proofs.YtgimdkgjfenafaaGreatDoor

namespace Go.Proofs.YtgimdkgjfenafaaGreatDoor
open Go.ChangeShapes Go.WideShapes Go.ChangeAt Go.RowKit
section
variable {H : Type} {enc : TypeId × Value → H} {W : World}
theorem bulk_pos (d : DataW H) : 1 ≤ Rows.uptoBulk d := by
 cases d with
 | lit l => cases l <;> simp [Rows.uptoBulk]
 | _ => simp [Rows.uptoBulk]
theorem bulk_len (l : List (DataW H)) : l.length ≤ Rows.uptoBulkAll l := by
 induction l with
 | nil => exact Nat.zero_le _
 | cons d l ih =>
  have := bulk_pos d
  simp only [Rows.uptoBulkAll, List.length_cons]
  omega
theorem bulk_mem {l : List (DataW H)} {d : DataW H} (h : d ∈ l) : Rows.uptoBulk d ≤ Rows.uptoBulkAll l := by
 induction l with
 | nil => cases h
 | cons e l ih =>
  simp only [Rows.uptoBulkAll]
  rcases List.mem_cons.1 h with rfl | h
  ·omega
  ·have := ih h
   omega
theorem field_strsB {n : Nat} {v : Value} {x : DataW H × List MemPlace} (h : DataW.trod enc Tryz.prog W 0 (fun _ => true) true n 27 [v] = some x) :
  ∃ (ao : Option Addr) (ss : List ByteArray) (c : Nat), v = .slice ao ss.length c ∧ ss.length ≤ c ∧ StrsAt W ao ss ∧ (Rows.uptoBulk x.1 ≤ 1048576 → ss.length ≤ 1048576 ∧ ∀ s ∈ ss, s.size ≤ 1048576) := by
 rcases open_strings Tryz.underlying27 Tryz.underlying9 cells_string h with ⟨hcs, hx⟩ | ⟨a, len, cap, ss, hcs, _, hl, hm, hz, hx, hcell, hw⟩
 ·injection hcs with hcs
  exact ⟨none, [], 0, hcs, Nat.le_refl _, .inl rfl, fun _ => ⟨Nat.zero_le _, fun s hs => by cases hs⟩⟩
 ·injection hcs with hcs
  simp only [if_true] at hz
  have e : (ss.take len).length = len := by rw [List.length_take]; omega
  refine ⟨some a, ss.take len, cap, by rw [e]; exact hcs, by omega, .inr ⟨a, rfl, fun j hj => ?_⟩, fun hb => ?_⟩
  ·rw [e] at hj
   rw [hcell j (by omega), List.getElem?_take_of_lt hj, List.getD_eq_getElem?_getD]
  ·rw [hx] at hb
   have hb' : Rows.uptoBulkAll (strs (H := H) (ss.take len)) + Rows.uptoBulkAll (strs (H := H) (ss.drop len)) + 1 ≤ 1048576 := by simpa only [Rows.uptoBulk] using hb
   have h1 := bulk_len (strs (H := H) (ss.take len))
   rw [show (strs (H := H) (ss.take len)).length = (ss.take len).length from List.length_map _] at h1
   refine ⟨by omega, fun s hs => ?_⟩
   have h2 := bulk_mem (H := H) (l := strs (ss.take len)) (d := .lit (.string s.data.toList)) (List.mem_map.2 ⟨s, hs, rfl⟩)
   simp only [Rows.uptoBulk] at h2
   rw [size_eq]
   omega
theorem cells_rneed : Tryz.prog.cellsOf 104 = 2 := by kernel_rfl
theorem cells_rkind : Tryz.prog.cellsOf 101 = 1 := by kernel_rfl
theorem cells_int0 : Tryz.prog.cellsOf 3 = 1 := by kernel_rfl
theorem cells_strs0 : Tryz.prog.cellsOf 27 = 1 := by kernel_rfl
theorem cells_needs0 : Tryz.prog.cellsOf 39 = 1 := by kernel_rfl
theorem cells_rdef : Tryz.prog.cellsOf 41 = 7 := by kernel_rfl
theorem add0 (a : Addr) : a.add 0 = a := rfl
theorem field_needsB {n : Nat} {v : Value} {x : DataW H × List MemPlace} (h : DataW.trod enc Tryz.prog W 0 (fun _ => true) true n 39 [v] = some x) :
  ∃ (ao : Option Addr) (ns : List NeedD) (c : Nat), v = .slice ao ns.length c ∧ ns.length ≤ c ∧ NeedsAt W ao ns ∧ (Rows.uptoBulk x.1 ≤ 1048576 → ns.length ≤ 1048576) := by
 rcases Go.Deep.open_slice_pairs Tryz.underlying39 Tryz.underlying104 cells_rneed rfl rfl cells_string cells_rkind h with ⟨hcs, hx⟩ | ⟨a, len, cap, m, k, V0, V1, D0, D1, P0, P1, hcs, _, hl, hm, hmm, hx, hel⟩
 ·injection hcs with hcs
  exact ⟨none, [], 0, hcs, Nat.le_refl _, .inl rfl, fun _ => Nat.zero_le _⟩
 ·injection hcs with hcs
  simp only [if_true] at hmm
  by_cases h0 : len = 0
  ·subst h0
   exact ⟨some a, [], cap, hcs, Nat.zero_le _, .inl rfl, fun _ => Nat.zero_le _⟩
  have hsp : a.spot = none := by
   have := (hel 0 (by omega)).1
   rw [Nat.zero_mul, add0] at this
   exact World.cell?_spot this
  have each : ∀ i, ∃ y : NeedD, i < len → W.cell? ⟨a.block, a.off + i * 2, none⟩ = some (.string y.name) ∧ W.cell? ⟨a.block, a.off + i * 2 + 1, none⟩ = some (.int .i64 y.kind) := fun i => by
   by_cases hi : i < len
   ·obtain ⟨c0, c1, t0, t1⟩ := hel i (by omega)
    obtain ⟨s, e0, _, _⟩ := DataW.trod_string Tryz.underlying9 t0
    obtain ⟨q, e1, _, _⟩ := DataW.trod_int Tryz.underlying101 t1
    injection e0 with e0
    injection e1 with e1
    have hadd : ∀ j, a.add j = ⟨a.block, a.off + j, none⟩ := fun j => by
     obtain ⟨ab, ao', asp⟩ := a
     dsimp only at hsp
     subst hsp
     unfold Addr.add
     split <;> simp_all
    rw [hadd, e0] at c0
    rw [hadd, e1] at c1
    exact ⟨⟨s, q⟩, fun _ => ⟨c0, by rw [Nat.add_assoc]; exact c1⟩⟩
   ·exact ⟨⟨ByteArray.empty, 0⟩, fun h => absurd h hi⟩
  obtain ⟨f, hf⟩ := Classical.axiomOfChoice each
  have e : ((List.range len).map f).length = len := by simp
  refine ⟨some a, (List.range len).map f, cap, by rw [e]; exact hcs, by omega, .inr ⟨a.block, a.off, ?_, fun j v hj => ?_⟩, fun hb => ?_⟩
  ·obtain ⟨ab, ao', asp⟩ := a
   dsimp only at hsp
   rw [hsp]
  ·have hjl : j < len * 2 := by
    have := (List.getElem?_eq_some_iff.1 hj).1
    rw [needs_len, e] at this
    exact this
   have hi : j / 2 < len := by omega
   have hr := fun (i : Nat) (u : Value) (hu : (f (j / 2)).cells[i]? = some u) => row_cells (f := NeedD.cells) need_len (l := (List.range len).map f) (j := j / 2) (x := f (j / 2)) (by rw [List.getElem?_map, List.getElem?_range hi]; rfl) hu
   obtain ⟨q0, q1⟩ := hf (j / 2) hi
   rcases (show j % 2 = 0 ∨ j % 2 = 1 by omega) with h2 | h2
   ·have e2 : j = j / 2 * 2 + 0 := by omega
    have := hr 0 (.string (f (j / 2)).name) rfl
    rw [← e2, hj] at this
    cases this
    rw [show a.off + j = a.off + j / 2 * 2 by omega]
    exact q0
   ·have e2 : j = j / 2 * 2 + 1 := by omega
    have := hr 1 (.int .i64 (f (j / 2)).kind) rfl
    rw [← e2, hj] at this
    cases this
    rw [show a.off + j = a.off + j / 2 * 2 + 1 by omega]
    exact q1
  ·rw [hx] at hb
   have hb' : Rows.uptoBulkAll ((List.range len).map fun i => DataW.agg [D0 i, D1 i]) + Rows.uptoBulkAll ((List.range (m - len)).map fun j => DataW.agg [D0 (len + j), D1 (len + j)]) + 1 ≤ 1048576 := by simpa only [Rows.uptoBulk] using hb
   have h1 := bulk_len ((List.range len).map fun i => DataW.agg [D0 i, D1 i])
   rw [List.length_map, List.length_range] at h1
   rw [e]
   omega
end
end Go.Proofs.YtgimdkgjfenafaaGreatDoor
namespace Go.Proofs.YtgimdkgjfenafaaGreatDoor
open Go.ChangeShapes Go.WideShapes Go.ChangeAt Go.RowKit
section
variable {H : Type} {enc : TypeId × Value → H} {W : World}
theorem flat_lenX {α : Type} {f : α → List Value} {k : Nat} (hf : ∀ x, (f x).length = k) (l : List α) : (l.flatMap f).length = l.length * k := by
 induction l with
 | nil => simp
 | cons a l ih => rw [List.flatMap_cons, List.length_append, hf, ih, List.length_cons, Nat.add_mul, Nat.one_mul]; omega
theorem open_rowsX {α : Type} [Inhabited α] {t e : TypeId} {k : Nat} (hk : 0 < k) {f : α → List Value} (hf : ∀ x, (f x).length = k) (ht : Tryz.prog.underlying t = some (.slice e)) (ce : Tryz.prog.cellsOf e = k) (Q : α → DataW H → Prop)
  (hel : ∀ {m : Nat} {cs : List Value} {y : DataW H × List MemPlace}, DataW.trod enc Tryz.prog W 0 (fun _ => true) true m e cs = some y → ∃ a : α, cs = f a ∧ Q a y.1)
  {n : Nat} {v : Value} {x : DataW H × List MemPlace} (h : DataW.trod enc Tryz.prog W 0 (fun _ => true) true n t [v] = some x) :
  ∃ (ao : Option Addr) (l : List α) (c : Nat), v = .slice ao l.length c ∧ l.length ≤ c ∧ c ≤ maxLen ∧ RowIs W ao l.length (l.flatMap f) ∧ (∀ a ∈ l, ∃ y, Q a y ∧ Rows.uptoBulk y ≤ Rows.uptoBulk x.1) ∧ l.length ≤ Rows.uptoBulk x.1 := by
 rcases Go.Deep.open_slice ht h with ⟨hcs, hx⟩ | ⟨a, len, cap, m, fu, D, Pl, hcs, _, hl, hm, hmm, hx, hx2⟩
 ·injection hcs with hcs
  exact ⟨none, [], 0, hcs, Nat.le_refl _, Nat.zero_le _, .inl rfl, (fun a ha => by cases ha), Nat.zero_le _⟩
 ·injection hcs with hcs
  simp only [if_true] at hmm
  rw [ce] at hx2
  have each : ∀ i, ∃ a' : α, i < len → W.cells? 0 (a.add (i * k)) k = some (f a') ∧ Q a' (D i) := fun i => by
   by_cases hi : i < len
   ·obtain ⟨cs', hc, ht'⟩ := hx2 i (by omega)
    obtain ⟨a', rfl, hq⟩ := hel ht'
    exact ⟨a', fun _ => ⟨hc, hq⟩⟩
   ·exact ⟨default, fun h => absurd h hi⟩
  obtain ⟨g, hg⟩ := Classical.axiomOfChoice each
  have e1 : ((List.range len).map g).length = len := by simp
  have hbe : Rows.uptoBulkAll ((List.range len).map D) + 1 ≤ Rows.uptoBulk x.1 := by
   rw [hx]
   simp only [Rows.uptoBulk]
   omega
  have hln : len ≤ Rows.uptoBulkAll ((List.range len).map D) := by
   have := bulk_len ((List.range len).map D)
   rwa [List.length_map, List.length_range] at this
  refine ⟨some a, (List.range len).map g, cap, by rw [e1]; exact hcs, by omega, hm, ?_, fun b hb => ?_, by omega⟩
  ·by_cases h0 : len = 0
   ·exact .inl (by omega)
   have hsp : a.spot = none := by
    obtain ⟨hc, _⟩ := hg 0 (by omega)
    obtain ⟨_, hlen, hcell⟩ := World.cells?_some hc
    have h0 := hcell 0 hk
    rw [Nat.zero_mul, show a.add 0 = a from rfl, show a.add 0 = a from rfl, List.getElem?_eq_getElem (by rw [hf]; exact hk)] at h0
    exact World.cell?_spot h0
   refine .inr ⟨a.block, a.off, by obtain ⟨ab, ao', asp⟩ := a; dsimp only at hsp; rw [hsp], fun j v hj => ?_⟩
   have hjl : j < len * k := by
    have := (List.getElem?_eq_some_iff.1 hj).1
    rwa [flat_lenX hf, e1] at this
   have hi : j / k < len := Nat.div_lt_of_lt_mul (by rw [Nat.mul_comm]; exact hjl)
   have hr := row_cells hf (l := (List.range len).map g) (j := j / k) (x := g (j / k)) (by rw [List.getElem?_map, List.getElem?_range hi]; rfl) (i := j % k) (v := (f (g (j / k)))[j % k]'(by rw [hf]; exact Nat.mod_lt _ hk)) (List.getElem?_eq_getElem _)
   rw [Nat.div_add_mod' j k, hj] at hr
   obtain ⟨hc, _⟩ := hg (j / k) hi
   obtain ⟨_, hlen, hcell⟩ := World.cells?_some hc
   have h1 := hcell (j % k) (Nat.mod_lt _ hk)
   have hadd : (a.add (j / k * k)).add (j % k) = ⟨a.block, a.off + j, none⟩ := by
    have e2 := Nat.div_add_mod' j k
    obtain ⟨ab, ao', asp⟩ := a
    dsimp only at hsp
    subst hsp
    unfold Addr.add
    split <;> split <;> simp_all [Nat.add_assoc]
   rw [hadd, List.getElem?_eq_getElem (by rw [hf]; exact Nat.mod_lt _ hk)] at h1
   rw [h1, hr]
  ·obtain ⟨i, hi, rfl⟩ := List.mem_map.1 hb
   have hi' : i < len := by simpa using hi
   have := bulk_mem (List.mem_map.2 ⟨i, hi, rfl⟩ : D i ∈ (List.range len).map D)
   exact ⟨D i, (hg i hi').2, by omega⟩
end
end Go.Proofs.YtgimdkgjfenafaaGreatDoor
namespace Go.Proofs.YtgimdkgjfenafaaGreatDoor
open Go.ChangeShapes Go.WideShapes Go.ChangeAt Go.RowKit
section
variable {H : Type} {enc : TypeId × Value → H} {W : World}
instance : Inhabited DEl := ⟨⟨⟨⟨#[]⟩, [], [], [], 0, 0, []⟩, none, 0, none, 0, none, 0, none, 0⟩⟩
instance : Inhabited XEl := ⟨⟨⟨#[]⟩, [], [], none, 0, none, 0⟩⟩
theorem cells_rdia : Tryz.prog.cellsOf 87 = 3 := by kernel_rfl
theorem cells_rdefs0 : Tryz.prog.cellsOf 85 = 1 := by kernel_rfl
set_option maxRecDepth 100000 in
theorem defel_cells {n : Nat} {cs : List Value} {x : DataW H × List MemPlace} (h : DataW.trod enc Tryz.prog W 0 (fun _ => true) true n 41 cs = some x) : ∃ e : DEl, cs = e.cells ∧ (DefOK W e ∧ (Rows.uptoBulk x.1 ≤ 1048576 → DefSmall e.d ∧ e.d.name.size ≤ 1048576)) := by
 obtain ⟨xs, m, _, hx, hl, hlen, hf⟩ := DataW.trod_struct Tryz.underlying41 h
 rw [cells_rdef] at hl
 have hxs : xs.length = 7 := hlen
 obtain ⟨c0, c1, c2, c3, c4, c5, c6, rfl⟩ : ∃ c0 c1 c2 c3 c4 c5 c6, cs = [c0, c1, c2, c3, c4, c5, c6] := by
  match cs, hl with
  | [c0, c1, c2, c3, c4, c5, c6], _ => exact ⟨c0, c1, c2, c3, c4, c5, c6, rfl⟩
 have g0 : DataW.trod enc Tryz.prog W 0 (fun _ => true) true m 9 (([c0, c1, c2, c3, c4, c5, c6].drop 0).take (Tryz.prog.cellsOf 9)) = xs[0]? := hf 0 _ rfl
 have g1 : DataW.trod enc Tryz.prog W 0 (fun _ => true) true m 27 (([c0, c1, c2, c3, c4, c5, c6].drop 1).take (Tryz.prog.cellsOf 27)) = xs[1]? := hf 1 _ rfl
 have g2 : DataW.trod enc Tryz.prog W 0 (fun _ => true) true m 27 (([c0, c1, c2, c3, c4, c5, c6].drop 2).take (Tryz.prog.cellsOf 27)) = xs[2]? := hf 2 _ rfl
 have g3 : DataW.trod enc Tryz.prog W 0 (fun _ => true) true m 39 (([c0, c1, c2, c3, c4, c5, c6].drop 3).take (Tryz.prog.cellsOf 39)) = xs[3]? := hf 3 _ rfl
 have g4 : DataW.trod enc Tryz.prog W 0 (fun _ => true) true m 3 (([c0, c1, c2, c3, c4, c5, c6].drop 4).take (Tryz.prog.cellsOf 3)) = xs[4]? := hf 4 _ rfl
 have g5 : DataW.trod enc Tryz.prog W 0 (fun _ => true) true m 3 (([c0, c1, c2, c3, c4, c5, c6].drop 5).take (Tryz.prog.cellsOf 3)) = xs[5]? := hf 5 _ rfl
 have g6 : DataW.trod enc Tryz.prog W 0 (fun _ => true) true m 27 (([c0, c1, c2, c3, c4, c5, c6].drop 6).take (Tryz.prog.cellsOf 27)) = xs[6]? := hf 6 _ rfl
 rw [cells_string, List.getElem?_eq_getElem (by omega)] at g0
 rw [cells_strs0, List.getElem?_eq_getElem (by omega)] at g1 g2 g6
 rw [cells_needs0, List.getElem?_eq_getElem (by omega)] at g3
 rw [cells_int0, List.getElem?_eq_getElem (by omega)] at g4 g5
 obtain ⟨nm, e0, d0, _⟩ := DataW.trod_string Tryz.underlying9 g0
 obtain ⟨io, is, ic, e1, h1, i1, b1⟩ := field_strsB g1
 obtain ⟨oo, os, oc, e2, h2, i2, b2⟩ := field_strsB g2
 obtain ⟨no, ns, nc, e3, h3, i3, b3⟩ := field_needsB g3
 obtain ⟨r, e4, _, _⟩ := DataW.trod_int Tryz.underlying3 g4
 obtain ⟨q, e5, _, _⟩ := DataW.trod_int Tryz.underlying3 g5
 obtain ⟨ko, ks, kc, e6, h6, i6, b6⟩ := field_strsB g6
 obtain rfl : c0 = .string nm := by injection e0
 obtain rfl : c4 = .int .i64 r := by injection e4
 obtain rfl : c5 = .int .i64 q := by injection e5
 subst e1 e2 e3 e6
 refine ⟨⟨⟨nm, is, os, ns, r, q, ks⟩, io, ic, oo, oc, no, nc, ko, kc⟩, rfl, ⟨i1, i2, i3, i6, h1, h2, h3, h6⟩, fun hb => ?_⟩
 have hd : x.1 = .agg (xs.map (·.1)) := congrArg Prod.fst hx
 have hall : Rows.uptoBulkAll (xs.map (·.1)) + 1 ≤ 1048576 := by rw [hd] at hb; simpa only [Rows.uptoBulk] using hb
 have hm : ∀ i (hi : i < xs.length), Rows.uptoBulk xs[i].1 ≤ 1048576 := fun i hi => by
  have := bulk_mem (List.mem_map.2 ⟨xs[i], List.getElem_mem hi, rfl⟩ : xs[i].1 ∈ xs.map (·.1))
  omega
 have q0 := hm 0 (by omega)
 rw [d0] at q0
 simp only [Rows.uptoBulk] at q0
 have q1 := b1 (hm 1 (by omega))
 have q2 := b2 (hm 2 (by omega))
 have q3 := b3 (hm 3 (by omega))
 have q6 := b6 (hm 6 (by omega))
 exact ⟨⟨q1.2, q2.2, q1.1, q2.1, q3, q6.1⟩, show nm.size ≤ _ by rw [size_eq]; omega⟩
set_option maxRecDepth 100000 in
theorem diael_cells {n : Nat} {cs : List Value} {x : DataW H × List MemPlace} (h : DataW.trod enc Tryz.prog W 0 (fun _ => true) true n 87 cs = some x) : ∃ e : XEl, cs = e.cells ∧ (DiaOK W e ∧ (Rows.uptoBulk x.1 ≤ 1048576 → SmallX e ∧ NameSmall e.d)) := by
 obtain ⟨xs, m, _, hx, hl, hlen, hf⟩ := DataW.trod_struct Tryz.underlying87 h
 rw [cells_rdia] at hl
 have hxs : xs.length = 3 := hlen
 obtain ⟨c0, c1, c2, rfl⟩ : ∃ c0 c1 c2, cs = [c0, c1, c2] := by
  match cs, hl with
  | [c0, c1, c2], _ => exact ⟨c0, c1, c2, rfl⟩
 have g0 : DataW.trod enc Tryz.prog W 0 (fun _ => true) true m 9 (([c0, c1, c2].drop 0).take (Tryz.prog.cellsOf 9)) = xs[0]? := hf 0 _ rfl
 have g1 : DataW.trod enc Tryz.prog W 0 (fun _ => true) true m 27 (([c0, c1, c2].drop 1).take (Tryz.prog.cellsOf 27)) = xs[1]? := hf 1 _ rfl
 have g2 : DataW.trod enc Tryz.prog W 0 (fun _ => true) true m 85 (([c0, c1, c2].drop 2).take (Tryz.prog.cellsOf 85)) = xs[2]? := hf 2 _ rfl
 rw [cells_string, List.getElem?_eq_getElem (by omega)] at g0
 rw [cells_strs0, List.getElem?_eq_getElem (by omega)] at g1
 rw [cells_rdefs0, List.getElem?_eq_getElem (by omega)] at g2
 obtain ⟨nm, e0, d0, _⟩ := DataW.trod_string Tryz.underlying9 g0
 obtain ⟨yo, ts, yc, e1, h1, i1, b1⟩ := field_strsB g1
 obtain ⟨po, os, pc, e2, h2, _, i2, q2, b2⟩ := open_rowsX (by decide) del_len Tryz.underlying85 cells_rdef (fun (e : DEl) y => DefOK W e ∧ (Rows.uptoBulk y ≤ 1048576 → DefSmall e.d ∧ e.d.name.size ≤ 1048576)) (fun h => defel_cells h) g2
 obtain rfl : c0 = .string nm := by injection e0
 subst e1 e2
 refine ⟨⟨nm, ts, os, yo, yc, po, pc⟩, rfl, ⟨i1, ⟨i2, fun e he => (q2 e he).elim fun _ h => h.1.1⟩, h1, h2⟩, fun hb => ?_⟩
 have hd : x.1 = .agg (xs.map (·.1)) := congrArg Prod.fst hx
 have hall : Rows.uptoBulkAll (xs.map (·.1)) + 1 ≤ 1048576 := by rw [hd] at hb; simpa only [Rows.uptoBulk] using hb
 have hm : ∀ i (hi : i < xs.length), Rows.uptoBulk xs[i].1 ≤ 1048576 := fun i hi => by
  have := bulk_mem (List.mem_map.2 ⟨xs[i], List.getElem_mem hi, rfl⟩ : xs[i].1 ∈ xs.map (·.1))
  omega
 have q0 := hm 0 (by omega)
 rw [d0] at q0
 simp only [Rows.uptoBulk] at q0
 have q1 := b1 (hm 1 (by omega))
 have q2b := hm 2 (by omega)
 have qe : ∀ e ∈ os, DefSmall e.d ∧ e.d.name.size ≤ 1048576 := fun e he => (q2 e he).elim fun y h => h.1.2 (Nat.le_trans h.2 q2b)
 have ql : os.length ≤ 1048576 := Nat.le_trans b2 q2b
 refine ⟨⟨ql, fun e he => (qe e he).1, q1.1, q1.2⟩, ⟨show nm.size ≤ _ by rw [size_eq]; omega, ?_, fun o ho => ?_⟩⟩
 ·show (os.map (·.d)).length ≤ _
  rw [List.length_map]
  exact ql
 ·obtain ⟨e, he, rfl⟩ := List.mem_map.1 ho
  exact (qe e he).2
set_option maxRecDepth 100000 in
theorem open_dias {base : Nat} {v : Value} {d : DataW H} {p : List MemPlace} (hval : Value.okWide Tryz.prog W .any base 22 v) (h : DataW.Trod enc Tryz.prog W 0 (fun _ => true) true 22 v d p) :
  ∃ (ao : Option Addr) (xs : List XEl) (c : Nat), v = .slice ao xs.length c ∧ DiasAt W ao xs ∧ (Rows.uptoBulk d ≤ 1048576 → xs.length ≤ 1048576 ∧ (∀ x ∈ xs, SmallX x) ∧ ∀ x ∈ xs, NameSmall x.d) := by
 obtain ⟨a0, n, c, rfl⟩ := Go.WideShapes.okWide_slice Tryz.underlying22 hval
 obtain ⟨fuel, h⟩ := h
 obtain ⟨po, os, pc, e2, h2, _, i2, q2, b2⟩ := open_rowsX (v := .slice a0 n c) (by decide) xel_len Tryz.underlying22 cells_rdia (fun (e : XEl) y => DiaOK W e ∧ (Rows.uptoBulk y ≤ 1048576 → SmallX e ∧ NameSmall e.d)) (fun h => diael_cells h) h
 refine ⟨po, os, pc, e2, ⟨i2, fun e he => (q2 e he).elim fun _ h => h.1.1⟩, fun hb => ?_⟩
 have qe : ∀ e ∈ os, SmallX e ∧ NameSmall e.d := fun e he => (q2 e he).elim fun y h => h.1.2 (Nat.le_trans h.2 hb)
 exact ⟨Nat.le_trans b2 hb, fun e he => (qe e he).1, fun e he => (qe e he).2⟩
end
end Go.Proofs.YtgimdkgjfenafaaGreatDoor
