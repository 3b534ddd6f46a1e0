import Derived.Test.YtgimdkgjfenafaaGreatDoorJDxPB
import Derived.Test.YtgimdkgjfenafaaGreatDoorG44
import Derived.BigQuiet
import Derived.Test.YtgimdkgjfenafaaGreatDoorG34
import Derived.Test.YtgimdkgjfenafaaGreatDoorG21
import Derived.Lib.IndexMore
import Derived.Test.YtgimdkgjfenafaaGreatDoorG45
namespace Go.Proofs.YtgimdkgjfenafaaGreatDoor
open Go.RowKit
open Lib (hid)
def allL : List DiaD → List DiaD → List DiaD
 | [], xs => xs
 | c :: cs, [] => c :: cs
 | c :: cs, x :: xs => if Op.bytesLess c.name.toList x.name.toList then c :: allL cs (x :: xs) else x :: allL (c :: cs) xs
termination_by a b => a.length + b.length
theorem all_nil (l : List DiaD) : allL l [] = l := by cases l <;> rw [allL]
theorem drop_cons' {α : Type} {rs : List α} {m : Nat} {r : α} (h : rs[m]? = some r) : rs.drop m = r :: rs.drop (m + 1) := by
 obtain ⟨hl, hv⟩ := List.getElem?_eq_some_iff.1 h
 rw [List.drop_eq_getElem_cons hl, hv]
structure AllS (B N : Nat) (cs xs : List DiaD) (W1 : World) (i k : Nat) (vo : Option Addr) (cp : Nat) (ys : List XEl) (wr : World) : Prop where
 below : Below W1.heap.size W1 wr
 row : wr.ownsRow W1.heap.size 87 3 (.slice vo ys.length cp) ys.length (ys.flatMap XEl.cells)
 so : ys.map XEl.d ++ allL (cs.drop i) (xs.drop k) = allL cs xs
 ok : ∀ y ∈ ys, DiaOK (pin B N none W1) y
 len : ys.length = i + k
theorem info_rdia : InfoIs 87 3 := infoIs (by kernel_rfl)
theorem AllS.next {B N : Nat} {cs xs : List DiaD} {W1 : World} {i k i' k' : Nat} {vo vo' : Option Addr} {cp cp' : Nat} {ys : List XEl} {wr w5 : World} {y : XEl} (h : AllS B N cs xs W1 i k vo cp ys wr) (hy : DiaOK (pin B N none W1) y)
  (hb : Below W1.heap.size W1 w5) (hown : w5.ownsRow W1.heap.size 87 3 (.slice vo' (ys.length + 1) cp') (ys.length + 1) (ys.flatMap XEl.cells ++ [.string y.name, .slice y.yo y.types.length y.yc, .slice y.po y.ops.length y.pc]))
  (hso : allL (cs.drop i) (xs.drop k) = y.d :: allL (cs.drop i') (xs.drop k')) (hl : i' + k' = i + k + 1) : AllS B N cs xs W1 i' k' vo' cp' (ys ++ [y]) w5 := by
 refine ⟨hb, ?_, ?_, fun z hz => ?_, by rw [List.length_append, h.len, List.length_singleton]; omega⟩
 ·rw [List.length_append, List.flatMap_append, List.flatMap_singleton]
  exact hown
 ·rw [← h.so, hso, List.map_append, List.append_assoc]
  rfl
 ·rcases List.mem_append.1 hz with hz | hz
  ·exact h.ok z hz
  ·obtain rfl := List.mem_singleton.1 hz
   exact hy
def RAllP (B : Nat) (xs : List DiaD) (w : World) (e : Ending) (w' : World) : Prop := Below w.heap.size w w' ∧ ∃ (ys : List XEl) (ao : Option Addr) (c : Nat), e = .returned (.slice ao ys.length c) ∧ ys.map XEl.d = allL coreD xs ∧ (RowIs w' ao ys.length (ys.flatMap XEl.cells) ∧ ∀ y ∈ ys, DiaOK (pin B w.heap.size none w') y) ∧ ys.length = 7 + xs.length
set_option maxHeartbeats 32000000 in
set_option maxRecDepth 100000 in
theorem RAll_any (ao : Option Addr) (xs : List XEl) (c0 : Nat) (hl : xs.length ≤ 1048576) (w : World) (B : Nat) (hd : RowIs w ao xs.length (xs.flatMap XEl.cells) ∧ ∀ x ∈ xs, DiaOK (pin B w.heap.size none w) x) : Calls Tryz.prog 44 #[.slice ao xs.length c0] w (RAllP B (xs.map XEl.d) w) := by
 have HD := hid hd
 have HL := hid hl
 have hli : (xs.length : Int) ≤ 1048576 := by omega
 have HAT := hid (show ∀ (j : Nat) (x : XEl), xs[j]? = some x → (xs.map XEl.d)[j]? = some x.d from fun j x h => by rw [List.getElem?_map, h]; rfl)
 have HLM := hid (show (xs.map XEl.d).length = xs.length from List.length_map _)
 generalize xs.map XEl.d = ds at HAT HLM ⊢
 clear hd hl
 go_enter Tryz.func44, Tryz.ntmps44
 go_wp2_with fail
 refine (RCore_any w).mono ?_
 rintro e w1 ⟨cs, co, cc, rfl, hcd, hcs, -, hb⟩
 have B1 := hid hb
 have hc7 : cs.length = 7 := by have := congrArg List.length hcd; rw [List.length_map] at this; exact this
 have HCS := hid (show RowIs w1 co cs.length (cs.flatMap XEl.cells) ∧ ∀ y ∈ cs, DiaOK (pin B w.heap.size none w1) y from ⟨(hcs.keeps above_to).1, fun y hy => (hcs.2 y hy).keeps (above_pin (Nat.le_refl _) (fun k e => nomatch e))⟩)
 have HX := hid (show RowIs w1 ao xs.length (xs.flatMap XEl.cells) ∧ ∀ y ∈ xs, DiaOK (pin B w.heap.size none w1) y from ⟨HD.out.1.below hb, fun y hy => (HD.out.2 y hy).keeps (pin_below hb)⟩)
 have HCT := hid (show ∀ (j : Nat) (x : XEl), cs[j]? = some x → coreD[j]? = some x.d from fun j x h => by rw [← hcd, List.getElem?_map, h]; rfl)
 have HC7 := hid hc7
 have HCL := hid (show coreD.length = 7 from rfl)
 clear hb hcd hcs
 obtain ⟨cd, hcd⟩ : ∃ cd, cd = coreD := ⟨_, rfl⟩
 rw [← hcd] at HCT HCL
 have HCD := hid hcd
 clear hcd
 go_wp2_with fail
 go_loopw [3, 5, 6] (fun ov iv kv wr => ∃ (i k : Nat) (vo : Option Addr) (cp : Nat) (ys : List XEl), i ≤ 7 ∧ k ≤ xs.length ∧ ov = .slice vo ys.length cp ∧ iv = .int .i64 i ∧ kv = .int .i64 k ∧ Hid (AllS B w.heap.size cd ds w1 i k vo cp ys wr)) (fun _ iv kv _ => (7 - (intOf iv).toNat) + (xs.length - (intOf kv).toNat))
 case atStart => exact ⟨0, 0, none, 0, [], Nat.zero_le _, Nat.zero_le _, rfl, rfl, rfl, ⟨Below.refl _ _, World.ownsRow_nil _ _ _ _, rfl, (fun y h => by cases h), rfl⟩⟩
 case round =>
  obtain ⟨i, k, vo, cp, ys, hi, hk, rfl, rfl, rfl, HA⟩ := hrel
  have HBR := hid (B1.out.trans (HA.out.below.mono B1.out.size))
  have hii : (i : Int) ≤ 7 := by omega
  have hkk : (k : Int) ≤ (xs.length : Int) := by omega
  have HNN := hid (show ys.length ≤ 2000000 by have := HA.out.len; have := HL.out; omega)
  have hcl : (cs.length : Int) = 7 := by omega
  by_cases hend : i = 7 ∧ k = xs.length
  ·obtain ⟨rfl, rfl⟩ := hend
   have hg1 : ¬ ((7 : Nat) : Int) < (cs.length : Int) := by omega
   have hg2 : ¬ ((xs.length : Int) < (xs.length : Int)) := by omega
   have HSO := hid (show ys.map XEl.d = allL cd ds by
    have := HA.out.so
    rw [(List.drop_eq_nil_of_le (by rw [HCL.out]; exact Nat.le_refl _) : cd.drop 7 = []), (List.drop_eq_nil_of_le (by rw [HLM.out]; exact Nat.le_refl _) : ds.drop xs.length = []), allL, List.append_nil] at this
    exact this)
   clear hi hk
   go_wp2_with fail
   go_ret
   exact ⟨HBR.out, ys, vo, cp, rfl, by rw [← HCD.out]; exact HSO.out, ⟨(row_own HA.out.row).1, fun y hy => (HA.out.ok y hy).keeps (pin_below HA.out.below)⟩, by rw [HLM.out]; exact HA.out.len⟩
  have HEND := hid hend
  have HI := hid hi
  have HK := hid hk
  clear hend hi hk
  have HOUT := hid HA.out.row
  have HSZ := hid HA.out.below.size
  -- which one comes next
  by_cases hkl : k = xs.length
  ·have hil : i < 7 := by have := HEND.out; have := HI.out; omega
   have hg : (i : Int) < 7 := by omega
   have hq : ((k : Int) == (xs.length : Int)) = true := by rw [hkl]; exact beq_self_eq_true _
   have hjs := List.getElem?_eq_getElem (show i < cs.length by omega)
   obtain ⟨bk, o, e1, kk⟩ := RowIs.at xel_len (HCS.out.1.below HA.out.below) hjs
   have hok := HCS.out.2 _ (List.getElem_mem (show i < cs.length by omega))
   obtain rfl : co = _ := e1
   generalize cs[i]'_ = y at hjs kk hok
   have k0 := kk 0 _ rfl
   have k1 := kk 1 _ rfl
   have k2 := kk 2 _ rfl
   rw [Nat.add_zero] at k0
   have HNX := hid (show allL (cd.drop i) (ds.drop k) = y.d :: allL (cd.drop (i + 1)) (ds.drop k) by
    rw [drop_cons' (HCT.out i y hjs), (List.drop_eq_nil_of_le (by rw [HLM.out]; omega) : ds.drop k = []), all_nil, all_nil])
   have HOK := hid hok
   have HIL := hid hil
   clear kk hjs hok hil hkl
   go_wp2_with fail
   go_quiet (fail)
   go_wp2_with (at_builtin; refine wp_append_own rfl 22 87 3 Tryz.underlying22 info_rdia (by decide) _ _ rfl (show (wr.drewN _).ownsRow _ _ _ _ _ _ from HOUT.out) (show _ ≤ (wr.drewN _).heap.size from HSZ.out) HNN.out rfl rfl rfl rfl ?_; intro ao5 c5 w5 hown hbel hkp; have HO5 := hid hown; have HB5 := hid hbel; clear hown hbel hkp)
   go_roundw
   case rel => exact ⟨i + 1, k, ao5, c5, ys ++ [y], HIL.out, HK.out, by rw [List.length_append, List.length_singleton], by go_num, rfl, HA.out.next HOK.out ((drawn_same HA.out.below _).trans HB5.out) HO5.out HNX.out (by omega)⟩
   case measure => have := HIL.out; have := HK.out; simp only [intOf]; omega
  have hkl2 : k < xs.length := by have := HK.out; omega
  have hq : ((k : Int) == (xs.length : Int)) = false := beq_eq_false_iff_ne.2 (by omega)
  have hkl3 : (k : Int) < (xs.length : Int) := by omega
  have hjs := List.getElem?_eq_getElem hkl2
  obtain ⟨bk, o, e1, kk⟩ := RowIs.at xel_len (HX.out.1.below HA.out.below) hjs
  have hok := HX.out.2 _ (List.getElem_mem hkl2)
  obtain rfl : ao = _ := e1
  generalize xs[k]'hkl2 = y at hjs kk hok
  have k0 := kk 0 _ rfl
  have k1 := kk 1 _ rfl
  have k2 := kk 2 _ rfl
  rw [Nat.add_zero] at k0
  have HYD := hid (HAT.out k y hjs)
  have HOK := hid hok
  have HKL := hid hkl2
  clear kk hjs hok hkl hkl2
  by_cases hil : i = 7
  ·have hg : decide ((i : Int) < 7) = false := decide_eq_false (by omega)
   have hg2 : ¬ (i : Int) < 7 := by omega
   have HNX := hid (show allL (cd.drop i) (ds.drop k) = y.d :: allL (cd.drop i) (ds.drop (k + 1)) by
    rw [drop_cons' HYD.out, (List.drop_eq_nil_of_le (by rw [HCL.out]; omega) : cd.drop i = []), allL, allL])
   clear hil
   go_wp2_with fail
   go_quiet (fail)
   go_wp2_with (at_builtin; refine wp_append_own rfl 22 87 3 Tryz.underlying22 info_rdia (by decide) _ _ rfl (show (wr.drewN _).ownsRow _ _ _ _ _ _ from HOUT.out) (show _ ≤ (wr.drewN _).heap.size from HSZ.out) HNN.out rfl rfl rfl rfl ?_; intro ao5 c5 w5 hown hbel hkp; have HO5 := hid hown; have HB5 := hid hbel; clear hown hbel hkp)
   go_roundw
   case rel => exact ⟨i, k + 1, ao5, c5, ys ++ [y], HI.out, HKL.out, by rw [List.length_append, List.length_singleton], rfl, by go_num, HA.out.next HOK.out ((drawn_same HA.out.below _).trans HB5.out) HO5.out HNX.out (by omega)⟩
   case measure => have := HKL.out; simp only [intOf]; omega
  have hil2 : i < 7 := by have := HI.out; omega
  have hg : (i : Int) < 7 := by omega
  have hjs := List.getElem?_eq_getElem (show i < cs.length by omega)
  obtain ⟨bj, p, e1, kk⟩ := RowIs.at xel_len (HCS.out.1.below HA.out.below) hjs
  have hok := HCS.out.2 _ (List.getElem_mem (show i < cs.length by omega))
  obtain rfl : co = _ := e1
  generalize cs[i]'_ = z at hjs kk hok
  have j0 := kk 0 _ rfl
  have j1 := kk 1 _ rfl
  have j2 := kk 2 _ rfl
  rw [Nat.add_zero] at j0
  have HZD := hid (HCT.out i z hjs)
  have HOZ := hid hok
  have HIL := hid hil2
  clear kk hjs hok hil hil2
  have HNX := hid (show allL (cd.drop i) (ds.drop k) = if Op.bytesLess z.name.toList y.name.toList then z.d :: allL (cd.drop (i + 1)) (ds.drop k) else y.d :: allL (cd.drop i) (ds.drop (k + 1)) by
   rw [drop_cons' HYD.out, drop_cons' HZD.out, allL]
   rfl)
  cases hls : Op.bytesLess z.name.toList y.name.toList
  ·have hnx := HNX.out
   rw [hls, if_neg (by decide)] at hnx
   replace HNX := hid hnx
   clear hnx
   go_wp2_with fail
   go_quiet (fail)
   go_wp2_with (at_builtin; refine wp_append_own rfl 22 87 3 Tryz.underlying22 info_rdia (by decide) _ _ rfl (show (wr.drewN _).ownsRow _ _ _ _ _ _ from HOUT.out) (show _ ≤ (wr.drewN _).heap.size from HSZ.out) HNN.out rfl rfl rfl rfl ?_; intro ao5 c5 w5 hown hbel hkp; have HO5 := hid hown; have HB5 := hid hbel; clear hown hbel hkp)
   go_roundw
   case rel => exact ⟨i, k + 1, ao5, c5, ys ++ [y], HI.out, HKL.out, by rw [List.length_append, List.length_singleton], rfl, by go_num, HA.out.next HOK.out ((drawn_same HA.out.below _).trans HB5.out) HO5.out HNX.out (by omega)⟩
   case measure => have := HKL.out; simp only [intOf]; omega
  ·have hnx := HNX.out
   rw [hls, if_pos rfl] at hnx
   replace HNX := hid hnx
   clear hnx
   go_wp2_with fail
   go_quiet (fail)
   go_wp2_with (at_builtin; refine wp_append_own rfl 22 87 3 Tryz.underlying22 info_rdia (by decide) _ _ rfl (show (wr.drewN _).ownsRow _ _ _ _ _ _ from HOUT.out) (show _ ≤ (wr.drewN _).heap.size from HSZ.out) HNN.out rfl rfl rfl rfl ?_; intro ao5 c5 w5 hown hbel hkp; have HO5 := hid hown; have HB5 := hid hbel; clear hown hbel hkp)
   go_roundw
   case rel => exact ⟨i + 1, k, ao5, c5, ys ++ [z], HIL.out, HK.out, by rw [List.length_append, List.length_singleton], by go_num, rfl, HA.out.next HOZ.out ((drawn_same HA.out.below _).trans HB5.out) HO5.out HNX.out (by omega)⟩
   case measure => have := HIL.out; simp only [intOf]; omega
def opsFind (pre nm : ByteArray) : List DefD → Option DefD
 | [] => none
 | o :: os => if (((pre ++ ⟨#[46]⟩) ++ o.name).toList == nm.toList) = true then some o else opsFind pre nm os
def allFind (nm : ByteArray) : List DiaD → Option DefD
 | [] => none
 | x :: xs => match opsFind x.name nm x.ops with
  | some o => some o
  | none => allFind nm xs
structure NameSmall (x : DiaD) : Prop where
 zn : x.name.size ≤ 1048576
 lo : x.ops.length ≤ 1048576
 each : ∀ o ∈ x.ops, o.name.size ≤ 1048576
theorem all_mem {z : DiaD} (a b : List DiaD) (h : z ∈ allL a b) : z ∈ a ∨ z ∈ b := by
 induction a, b using allL.induct with
 | case1 xs => rw [allL] at h; exact .inr h
 | case2 c cs => rw [allL] at h; exact .inl h
 | case3 c cs x xs hc ih =>
  rw [allL, if_pos hc] at h
  rcases List.mem_cons.1 h with h | h
  ·exact .inl (List.mem_cons.2 (.inl h))
  ·exact (ih h).imp (fun h => List.mem_cons.2 (.inr h)) id
 | case4 c cs x xs hc ih =>
  rw [allL, if_neg hc] at h
  rcases List.mem_cons.1 h with h | h
  ·exact .inr (List.mem_cons.2 (.inl h))
  ·exact (ih h).imp id (fun h => List.mem_cons.2 (.inr h))
def nameSmallB (x : DiaD) : Bool := decide (x.name.size ≤ 1048576) && decide (x.ops.length ≤ 1048576) && x.ops.all fun o => decide (o.name.size ≤ 1048576)
theorem nameSmall_of {x : DiaD} (h : nameSmallB x = true) : NameSmall x := by
 unfold nameSmallB at h
 simp only [Bool.and_eq_true, decide_eq_true_eq, List.all_eq_true] at h
 exact ⟨h.1.1, h.1.2, h.2⟩
theorem core_nameSmall : ∀ x ∈ coreD, NameSmall x := by
 have h : (coreD.all nameSmallB) = true := by decide
 exact fun x hx => nameSmall_of (List.all_eq_true.1 h x hx)
theorem allFind_skip {nm : ByteArray} {l : List DiaD} {i : Nat} {x : DiaD} (hi : l[i]? = some x) (h : opsFind x.name nm x.ops = none) : allFind nm (l.drop i) = allFind nm (l.drop (i + 1)) := by
 rw [drop_cons' hi, allFind, h]
theorem allFind_hit {nm : ByteArray} {l : List DiaD} {i : Nat} {x : DiaD} {d : DefD} (hi : l[i]? = some x) (h : opsFind x.name nm x.ops = some d) : allFind nm (l.drop i) = some d := by
 rw [drop_cons' hi, allFind, h]
theorem opsFind_skip {pre nm : ByteArray} {l : List DefD} {i : Nat} {o : DefD} (hi : l[i]? = some o) (h : (((pre ++ ⟨#[46]⟩) ++ o.name).toList == nm.toList) = false) : opsFind pre nm (l.drop i) = opsFind pre nm (l.drop (i + 1)) := by
 rw [drop_cons' hi, opsFind, h, if_neg (by decide)]
theorem opsFind_hit {pre nm : ByteArray} {l : List DefD} {i : Nat} {o : DefD} (hi : l[i]? = some o) (h : (((pre ++ ⟨#[46]⟩) ++ o.name).toList == nm.toList) = true) : opsFind pre nm (l.drop i) = some o := by
 rw [drop_cons' hi, opsFind, h, if_pos rfl]
theorem pin_set7 {B N b : Nat} {g : Option Nat} {w : World} {u0 u1 u2 u3 u4 u5 u6 : Value} (h1 : B ≤ b) (h2 : b < N) : Keeps (pin B N g w) (pin B N g (((((((w.setCell ⟨b, 0, none⟩ u0).setCell ⟨b, 1, none⟩ u1).setCell ⟨b, 2, none⟩ u2).setCell ⟨b, 3, none⟩ u3).setCell ⟨b, 4, none⟩ u4).setCell ⟨b, 5, none⟩ u5).setCell ⟨b, 6, none⟩ u6)) := mask_keeps fun k hp _ => ⟨hp, by
 rw [Bool.and_eq_true, Bool.or_eq_true] at hp
 simp only [decide_eq_true_eq] at hp
 exact dset7_other (by omega)⟩
theorem DefOK.keeps' {w w' : World} {x : DEl} (h : DefOK w x) (hb : Keeps w w') : DefOK w' x := h.keeps hb
def RFindP (ds : List DiaD) (nm : ByteArray) (w : World) (e : Ending) (w' : World) : Prop := Below w.heap.size w w' ∧
 ((allFind nm (allL coreD ds) = none ∧ e = .returned (.tuple #[.agg #[.string ⟨#[]⟩, .slice none 0 0, .slice none 0 0, .slice none 0 0, .int .i64 0, .int .i64 0, .slice none 0 0], .bool false])) ∨
  (∃ y : DEl, allFind nm (allL coreD ds) = some y.d ∧ DefOK w' y ∧ e = .returned (.tuple #[y.val, .bool true])))
set_option maxHeartbeats 16000000 in
set_option maxRecDepth 100000 in
theorem RFind_any (ao : Option Addr) (xs : List XEl) (c0 : Nat) (hl : xs.length ≤ 1048576) (hs : ∀ x ∈ xs, NameSmall x.d) (nm : ByteArray) (w : World) (hd : DiasAt w ao xs) : Calls Tryz.prog 20 #[.slice ao xs.length c0, .string nm] w (RFindP (xs.map XEl.d) nm w) := by
 obtain ⟨W1, hW1⟩ : ∃ W1, W1 = w.alloc (.cells #[.string ⟨#[]⟩, .slice none 0 0, .slice none 0 0, .slice none 0 0, .int .i64 0, .int .i64 0, .slice none 0 0] 41) := ⟨_, rfl⟩
 have T1 : Hid (W1.heap[w.heap.size]? = some (.cells #[.string ⟨#[]⟩, .slice none 0 0, .slice none 0 0, .slice none 0 0, .int .i64 0, .int .i64 0, .slice none 0 0] 41 (0, 0))) := by
  show W1.heap[w.heap.size]? = _
  rw [hW1]
  exact heap_alloc_new _ _
 have B1 : Hid (Below w.heap.size w W1) := by
  show Below _ _ _
  rw [hW1]
  exact new_below _ _
 have HM := hid (show w.heap.size < W1.heap.size from lt_of_block T1.out)
 have HD := hid (show RowIs W1 ao xs.length (xs.flatMap XEl.cells) ∧ ∀ x ∈ xs, DiaOK (pin w.heap.size W1.heap.size none W1) x from ⟨hd.1.below B1.out, fun x hx => (hd.2 x hx).keeps (old_pin rfl B1.out fun k e => nomatch e)⟩)
 have HL := hid hl
 have HSM := hid (show ∀ x ∈ allL coreD (xs.map XEl.d), NameSmall x from fun x hx => by
  rcases all_mem _ _ hx with h | h
  ·exact core_nameSmall x h
  ·obtain ⟨y, hy, rfl⟩ := List.mem_map.1 h
   exact hs y hy)
 obtain ⟨ds, hds⟩ : ∃ ds, ds = xs.map XEl.d := ⟨_, rfl⟩
 have HDS := hid hds
 rw [← hds] at HSM ⊢
 clear hds
 have HCA := hid (RAll_any ao xs c0 hl W1 w.heap.size HD.out)
 have HRD := hid (show xs.map XEl.d = ds from HDS.out.symm)
 rw [HRD.out] at HCA
 generalize hC : w.heap.size = C at T1 B1 HM HCA ⊢
 have HCE := hid hC
 have HXL := hid (show ds.length ≤ 1048576 by rw [← HRD.out, List.length_map]; exact hl)
 clear hC hd hl hs HD HL
 go_enter Tryz.func20, Tryz.ntmps20
 go_upto_region 1 with fail
 rw [← hW1]
 clear hW1
 try rw [HCE.out]
 go_wp2_with fail
 refine HCA.out.mono ?_
 rintro e w2 ⟨hb, ys, yo, yc, rfl, has, hys, hlen⟩
 have T2 := hid ((hb.block _ (lt_of_block T1.out)).trans T1.out)
 have B2 := hid (B1.out.trans (hb.mono (Nat.le_of_lt (HCE.out ▸ HM.out))))
 have HY := hid hys
 have HAT := hid (show ∀ (j : Nat) (x : XEl), ys[j]? = some x → (allL coreD ds)[j]? = some x.d from fun j x h => by rw [← has, List.getElem?_map, h]; rfl)
 have HAL := hid (show (allL coreD ds).length = ys.length by rw [← has, List.length_map])
 have HNL := hid (show ys.length ≤ 2000000 from by rw [hlen]; have := HXL.out; omega)
 clear hb hys has HCA
 obtain ⟨al, hal⟩ : ∃ al, al = allL coreD ds := ⟨_, rfl⟩
 rw [← hal] at HSM HAT HAL
 have HAE := hid hal
 clear hal
 have hni : (ys.length : Int) ≤ 2000000 := by have := HNL.out; omega
 go_wp2_with fail
 go_loopw [7] (fun iv wr => ∃ i : Nat, i ≤ ys.length ∧ iv = .int .i64 i ∧ Hid (allFind nm (al.drop i) = allFind nm al ∧ Below w2.heap.size w2 wr)) (fun iv _ => ys.length - (intOf iv).toNat)
 case atStart => exact ⟨0, Nat.zero_le _, rfl, rfl, Below.refl _ _⟩
 case round =>
  obtain ⟨i, hi, rfl, HI⟩ := hrel
  by_cases hlt : i < ys.length
  rotate_left
  ·have hge : ¬ (i : Int) < (ys.length : Int) := by omega
   have HN := hid (show allFind nm al = none by rw [← HI.out.1, List.drop_eq_nil_of_le (by rw [HAL.out]; omega)]; rfl)
   have T3 := hid ((HI.out.2.block _ (lt_of_block T2.out)).trans T2.out)
   obtain ⟨g0, g1, g2, g3, g4, g5, g6, gf⟩ := dcells7 T3.out
   clear hlt hi
   go_wp2_with fail
   refine bodyPost_ret (v := .tuple #[.agg #[.string ⟨#[]⟩, .slice none 0 0, .slice none 0 0, .slice none 0 0, .int .i64 0, .int .i64 0, .slice none 0 0], .bool false]) (results_cell_tmp Tryz.results20 rfl rfl (rdefVar (dset7_block T3.out))) rfl ?_
   exact ⟨HCE.out ▸ dbelow_set7 (B2.out.trans (HI.out.2.mono (HCE.out ▸ B2.out.size))) (Nat.le_refl _), .inl ⟨by rw [← HAE.out]; exact HN.out, rfl⟩⟩
  have hlti : (i : Int) < (ys.length : Int) := by omega
  have hjs := List.getElem?_eq_getElem hlt
  obtain ⟨bk, o, e1, kk⟩ := RowIs.at xel_len (HY.out.1.below HI.out.2) hjs
  have hok := HY.out.2 _ (List.getElem_mem hlt)
  obtain rfl : yo = _ := e1
  generalize ys[i]'hlt = y at hjs kk hok
  have hyd := HAT.out i y hjs
  have hsm := HSM.out _ (List.mem_of_getElem? hyd)
  have HCY := hid (fun (X : World) (h : Below w2.heap.size w2 X) => show X.cell? ⟨bk, o + i * 3, none⟩ = some (.string y.name) ∧ X.cell? ⟨bk, o + i * 3 + 2, none⟩ = some (.slice y.po y.ops.length y.pc) from by
   obtain ⟨bk', o', e', kk'⟩ := RowIs.at xel_len (HY.out.1.below h) hjs
   cases e'
   exact ⟨kk' 0 _ rfl, kk' 2 _ rfl⟩)
  have k2 := kk 2 _ rfl
  have HYD := hid hyd
  have HSY := hid hsm
  have HOK := hid hok
  have HLT := hid hlt
  have HPL := hid (show y.ops.length ≤ 1048576 from by have := hsm.lo; rwa [show y.d.ops = y.ops.map (·.d) from rfl, List.length_map] at this)
  have hpli : (y.ops.length : Int) ≤ 1048576 := by have := HPL.out; omega
  clear kk hjs hok hlt hi hyd hsm
  go_wp2_with fail
  go_loopw [8] (fun jv wr2 => ∃ j : Nat, j ≤ y.ops.length ∧ jv = .int .i64 j ∧ Hid (opsFind y.name nm (y.d.ops.drop j) = opsFind y.name nm y.d.ops ∧ Below w2.heap.size w2 wr2)) (fun jv _ => y.ops.length - (intOf jv).toNat)
  case atStart => exact ⟨0, Nat.zero_le _, rfl, rfl, HI.out.2⟩
  case round =>
   obtain ⟨j, hj, rfl, HJ⟩ := hrel
   obtain ⟨k0, k2⟩ := HCY.out _ HJ.out.2
   by_cases hlt : j < y.ops.length
   rotate_left
   ·have hge : ¬ (j : Int) < (y.ops.length : Int) := by omega
    have HN := hid (show opsFind y.name nm y.d.ops = none by rw [← HJ.out.1, List.drop_eq_nil_of_le (by rw [show y.d.ops = y.ops.map (·.d) from rfl, List.length_map]; omega)]; rfl)
    clear hlt hj
    go_wp2_with fail
    go_roundw
    case rel => exact ⟨i + 1, HLT.out, by go_num, by rw [← allFind_skip HYD.out HN.out]; exact HI.out.1, HJ.out.2⟩
    case measure => have := HLT.out; simp only [intOf]; omega
   have hltj : (j : Int) < (y.ops.length : Int) := by omega
   have hjs := List.getElem?_eq_getElem hlt
   have hrow := ((HOK.out.keeps (pin_below HJ.out.2)).ops.keeps mask_to)
   obtain ⟨bj, p, e1, kk⟩ := RowIs.at del_len hrow.1 hjs
   have hzo := (HOK.out.ops.2 _ (List.getElem_mem hlt))
   generalize y.ops[j]'hlt = z at hjs kk hzo
   have hzd : y.d.ops[j]? = some z.d := by rw [show y.d.ops = y.ops.map (·.d) from rfl, List.getElem?_map, hjs]; rfl
   have hzs := HSY.out.each _ (List.mem_of_getElem? hzd)
   have j0 := kk 0 _ rfl
   have j1 := kk 1 _ rfl
   have j2 := kk 2 _ rfl
   have j3 := kk 3 _ rfl
   have j4 := kk 4 _ rfl
   have j5 := kk 5 _ rfl
   have j6 := kk 6 _ rfl
   rw [Nat.add_zero] at j0
   rw [e1] at k2
   have hadd1 := add_strings y.name ⟨#[46]⟩ (by have : y.name.size ≤ 1048576 := HSY.out.zn; omega) (by decide)
   have hadd2 := add_strings (y.name ++ ⟨#[46]⟩) z.d.name (by rw [ByteArray.size_append]; have : y.name.size ≤ 1048576 := HSY.out.zn; have : (⟨#[46]⟩ : ByteArray).size = 1 := rfl; omega) (by omega)
   have HZD := hid hzd
   have HZO := hid hzo
   have HLJ := hid hlt
   clear kk hjs hrow hzo hzd hzs hlt hj
   go_wp2_with fail
   go_quiet (fail)
   cases heq : (((y.name ++ ⟨#[46]⟩) ++ z.d.name).toList == nm.toList)
   ·have HF := hid (opsFind_skip HZD.out heq)
    go_wp2_with fail
    go_roundw
    case rel => exact ⟨j + 1, HLJ.out, by go_num, by rw [← HF.out]; exact HJ.out.1, drawn_same HJ.out.2 _⟩
    case measure => have := HLJ.out; simp only [intOf]; omega
   ·have HF := hid (opsFind_hit HZD.out heq)
    have HF2 := hid (show allFind nm al = some z.d from HI.out.1.symm.trans (allFind_hit HYD.out (show opsFind y.name nm y.d.ops = some z.d from HJ.out.1.symm.trans HF.out)))
    have T3 := hid ((HJ.out.2.block _ (lt_of_block T2.out)).trans T2.out)
    obtain ⟨g0, g1, g2, g3, g4, g5, g6, gf⟩ := dcells7 T3.out
    go_wp2_with fail
    refine bodyPost_ret (v := .tuple #[.agg #[.string z.d.name, .slice z.io z.d.ins.length z.ic, .slice z.oo z.d.outs.length z.oc, .slice z.no z.d.needs.length z.nc, .int .i64 z.d.regions, .int .i64 z.d.succs, .slice z.ko z.d.traits.length z.kc], .bool true]) (results_cell_tmp Tryz.results20 rfl rfl (rdefVar (dset7_block T3.out))) rfl ?_
    exact ⟨HCE.out ▸ dbelow_set7 (B2.out.trans ((drawn_same HJ.out.2 _).mono (HCE.out ▸ B2.out.size))) (Nat.le_refl _), .inr ⟨z, by rw [← HAE.out]; exact HF2.out, ((HZO.out.keeps (pin_below (drawn_same HJ.out.2 _))).keeps (pin_set7 (Nat.le_refl _) HM.out)).keeps mask_to, rfl⟩⟩
theorem less_cons (a b : UInt8) (x y : List UInt8) : Op.bytesLess (a :: x) (b :: y) = true ↔ a < b ∨ (a = b ∧ Op.bytesLess x y = true) := by
 rw [Op.bytesLess, Bool.or_eq_true, Bool.and_eq_true, decide_eq_true_iff, beq_iff_eq]
theorem u8_trans {a b c : UInt8} (h : a < b) (k : b < c) : a < c := by
 have h1 := UInt8.lt_iff_toNat_lt.1 h
 have h2 := UInt8.lt_iff_toNat_lt.1 k
 exact UInt8.lt_iff_toNat_lt.2 (by omega)
theorem less_trans : ∀ {a b c : List UInt8}, Op.bytesLess a b = true → Op.bytesLess b c = true → Op.bytesLess a c = true
 | _, [], _, h, _ => by rw [Op.bytesLess.eq_def] at h; simp at h
 | _, _ :: _, [], _, h => by rw [Op.bytesLess] at h; cases h
 | [], _ :: _, _ :: _, _, _ => by rw [Op.bytesLess]
 | a :: x, b :: y, c :: z, h, k => by
  rw [less_cons] at h k ⊢
  rcases h with h | ⟨rfl, h⟩
  ·rcases k with k | ⟨rfl, k⟩
   ·exact .inl (u8_trans h k)
   ·exact .inl h
  ·rcases k with k | ⟨rfl, k⟩
   ·exact .inl k
   ·exact .inr ⟨rfl, less_trans h k⟩
theorem less_irrefl : ∀ a : List UInt8, ¬ Op.bytesLess a a = true
 | [], h => by rw [Op.bytesLess.eq_def] at h; simp at h
 | a :: x, h => by
  rcases (less_cons a a x x).1 h with h | ⟨_, h⟩
  ·have := UInt8.lt_iff_toNat_lt.1 h
   omega
  ·exact less_irrefl x h
theorem rise_lt {ns : List ByteArray} (h : risingL ns = true) (i : Nat) : ∀ j : Nat, i < j → j < ns.length → Op.bytesLess (nthB ns i).toList (nthB ns j).toList = true := by
 have one : ∀ k, k + 1 < ns.length → Op.bytesLess (nthB ns k).toList (nthB ns (k + 1)).toList = true := fun k hk => by
  have := List.all_eq_true.1 h (k + 1) (List.mem_range.2 hk)
  unfold riseAt at this
  simpa using this
 intro j hij hj
 induction j with
 | zero => omega
 | succ j ih =>
  rcases Nat.lt_or_ge i j with h1 | h1
  ·exact less_trans (ih h1 (by omega)) (one j hj)
  ·obtain rfl : i = j := by omega
   exact one i hj
theorem rise_nodup {ns : List ByteArray} (h : risingL ns = true) : ns.Nodup :=
 List.pairwise_iff_getElem.2 fun i j hi hj hij e => by
  have := rise_lt h i j hij hj
  unfold nthB at this
  rw [List.getElem?_eq_getElem hi, List.getElem?_eq_getElem hj, e] at this
  exact less_irrefl _ this
theorem index_dot (b : List UInt8) : ∀ a : List UInt8, (46 : UInt8) ∉ a → Lib.index (a ++ 46 :: b) [46] = (a.length : Int)
 | [], _ => by simp [Lib.index, List.isPrefixOf]
 | c :: a, h => by
  have ih := index_dot b a (fun hh => h (List.mem_cons.2 (.inr hh)))
  have hc : ((46 : UInt8) == c) = false := beq_eq_false_iff_ne.2 (fun e => h (List.mem_cons.2 (.inl e)))
  rw [List.cons_append, Lib.index, ih]
  have hp : List.isPrefixOf [46] (c :: (a ++ 46 :: b)) = false := by simp [List.isPrefixOf, hc]
  rw [hp, if_neg (by decide), if_neg (by rw [beq_iff_eq]; omega), List.length_cons]
  omega
theorem index_nodot : ∀ a : List UInt8, (46 : UInt8) ∉ a → Lib.index a [46] = -1
 | [], _ => rfl
 | c :: a, h => by
  have ih := index_nodot a (fun hh => h (List.mem_cons.2 (.inr hh)))
  have hc : ((46 : UInt8) == c) = false := beq_eq_false_iff_ne.2 (fun e => h (List.mem_cons.2 (.inl e)))
  rw [Lib.index, ih]
  have hp : List.isPrefixOf [46] (c :: a) = false := by simp [List.isPrefixOf, hc]
  rw [hp]
  rfl
theorem cut_dot {a b : List UInt8} (h : (46 : UInt8) ∉ a) : Lib.cut (a ++ 46 :: b) [46] = (a, b, true) := by
 unfold Lib.cut
 rw [index_dot b a h, if_pos (by omega)]
 have h1 : (a ++ 46 :: b).take ((a.length : Int).toNat) = a := by rw [Int.toNat_natCast, List.take_left']; rfl
 have h2 : (a ++ 46 :: b).drop ((a.length : Int).toNat + [(46 : UInt8)].length) = b := by
  rw [Int.toNat_natCast, show a ++ 46 :: b = (a ++ [46]) ++ b by simp]
  exact List.drop_left' (by simp)
 rw [h1, h2]
theorem cut_nodot {a : List UInt8} (h : (46 : UInt8) ∉ a) : Lib.cut a [46] = (a, [], false) := by
 unfold Lib.cut
 rw [index_nodot a h, if_neg (by decide)]
theorem join_iff {P O N : List UInt8} (hP : (46 : UInt8) ∉ P) (hO : O ≠ []) : P ++ 46 :: O = N ↔ P = (Lib.cut N [46]).1 ∧ O = (Lib.cut N [46]).2.1 := by
 constructor
 ·rintro rfl
  rw [cut_dot hP]
  exact ⟨rfl, rfl⟩
 ·rintro ⟨h1, h2⟩
  by_cases hd : (46 : UInt8) ∈ N
  ·obtain ⟨us, vs, rfl, hn⟩ := List.eq_append_cons_of_mem hd
   rw [cut_dot hn] at h1 h2
   rw [h1, h2]
  ·rw [cut_nodot hd] at h2
   exact absurd h2 hO
theorem bytes_eq_iff {a b : ByteArray} : (a.toList == b.toList) = true ↔ a = b := by
 rw [beq_iff_eq, ByteArray.toList_eq, ByteArray.toList_eq]
 constructor
 ·intro h
  exact ByteArray.ext (Array.toList_inj.1 h)
 ·rintro rfl
  rfl
theorem joined_eq {pre own nm : ByteArray} (hd : (46 : UInt8) ∉ pre.data.toList) (ho : own.data.toList ≠ []) : (((pre ++ ⟨#[46]⟩) ++ own).toList == nm.toList) = ((pre.toList == (preB nm).toList) && (own.toList == (ownB nm).toList)) := by
 rw [Bool.eq_iff_iff, Bool.and_eq_true, beq_iff_eq, beq_iff_eq, beq_iff_eq, ByteArray.toList_eq, ByteArray.toList_eq, ByteArray.toList_eq, ByteArray.toList_eq, ByteArray.toList_eq, ByteArray.toList_eq]
 have h := join_iff (N := nm.data.toList) hd ho
 have e : ((pre ++ ⟨#[46]⟩) ++ own).data.toList = pre.data.toList ++ 46 :: own.data.toList := by simp [ByteArray.data_append]
 rw [e, h]
 exact Iff.rfl
theorem opsFind_eq {pre nm : ByteArray} (hd : (46 : UInt8) ∉ pre.data.toList) : ∀ ops : List DefD, (∀ o ∈ ops, o.name.data.toList ≠ []) → opsFind pre nm ops = if (pre.toList == (preB nm).toList) = true then findD ops (ownB nm) else none
 | [], _ => by
  unfold opsFind findD
  split <;> rfl
 | o :: ops, h => by
  have ih := opsFind_eq (nm := nm) hd ops (fun x hx => h x (List.mem_cons.2 (.inr hx)))
  have hj := joined_eq (nm := nm) hd (h o (List.mem_cons.2 (.inl rfl)))
  rw [opsFind, hj, ih]
  cases hp : (pre.toList == (preB nm).toList)
  ·rfl
  ·cases hq : (o.name.toList == (ownB nm).toList)
   ·unfold findD
    rw [List.find?_cons_of_neg (by rw [hq]; decide)]
    rfl
   ·unfold findD
    rw [List.find?_cons_of_pos (p := fun d : DefD => d.name.toList == (ownB nm).toList) hq]
    rfl
structure DotFree (x : DiaD) : Prop where
 nm : (46 : UInt8) ∉ x.name.data.toList
 each : ∀ o ∈ x.ops, o.name.data.toList ≠ []
theorem allFind_eq {nm : ByteArray} : ∀ l : List DiaD, (∀ x ∈ l, DotFree x) → (∀ x ∈ l, ∀ y ∈ l, x.name = y.name → x = y) →
  allFind nm l = match l.find? (fun x => x.name.toList == (preB nm).toList) with
   | some x => findD x.ops (ownB nm)
   | none => none
 | [], _, _ => rfl
 | x :: l, hok, hu => by
  have ih := allFind_eq (nm := nm) l (fun y hy => hok y (List.mem_cons.2 (.inr hy))) (fun y hy z hz => hu y (List.mem_cons.2 (.inr hy)) z (List.mem_cons.2 (.inr hz)))
  have hx := hok x (List.mem_cons.2 (.inl rfl))
  have ho := opsFind_eq (nm := nm) hx.nm x.ops hx.each
  cases hp : (x.name.toList == (preB nm).toList)
  ·rw [hp, if_neg (by decide)] at ho
   rw [List.find?_cons_of_neg (by rw [hp]; decide), allFind, ho, ih]
  ·rw [hp, if_pos rfl] at ho
   rw [List.find?_cons_of_pos (p := fun x : DiaD => x.name.toList == (preB nm).toList) hp, allFind, ho]
   cases hf : findD x.ops (ownB nm) with
   | some d => exact hf.symm
   | none =>
    show allFind nm l = findD x.ops (ownB nm)
    rw [hf, ih]
    cases hl : l.find? (fun x => x.name.toList == (preB nm).toList) with
    | none => rfl
    | some y =>
     have hm := List.mem_of_find?_eq_some hl
     have hy := List.find?_some hl
     have e := hu x (List.mem_cons.2 (.inl rfl)) y (List.mem_cons.2 (.inr hm)) ((bytes_eq_iff.1 hp).trans (bytes_eq_iff.1 hy).symm)
     subst e
     exact hf
theorem mem_all {z : DiaD} (a b : List DiaD) (h : z ∈ a ∨ z ∈ b) : z ∈ allL a b := by
 induction a, b using allL.induct with
 | case1 xs => rw [allL]; exact h.resolve_left (fun h => nomatch h)
 | case2 c cs => rw [allL]; exact h.resolve_right (fun h => nomatch h)
 | case3 c cs x xs hc ih =>
  rw [allL, if_pos hc]
  rcases h with h | h
  ·rcases List.mem_cons.1 h with h | h
   ·exact List.mem_cons.2 (.inl h)
   ·exact List.mem_cons.2 (.inr (ih (.inl h)))
  ·exact List.mem_cons.2 (.inr (ih (.inr h)))
 | case4 c cs x xs hc ih =>
  rw [allL, if_neg hc]
  rcases h with h | h
  ·exact List.mem_cons.2 (.inr (ih (.inl h)))
  ·rcases List.mem_cons.1 h with h | h
   ·exact List.mem_cons.2 (.inl h)
   ·exact List.mem_cons.2 (.inr (ih (.inr h)))
def dotFreeB (x : DiaD) : Bool := x.name.data.toList.all (fun c => c != 46) && x.ops.all fun o => !o.name.data.toList.isEmpty
theorem dotFree_of {x : DiaD} (h : dotFreeB x = true) : DotFree x := by
 unfold dotFreeB at h
 simp only [Bool.and_eq_true, List.all_eq_true, bne_iff_ne, Bool.not_eq_true', List.isEmpty_eq_false_iff] at h
 exact ⟨fun hh => h.1 _ hh rfl, h.2⟩
theorem core_dotFree : ∀ x ∈ coreD, DotFree x := by
 have h : (coreD.all dotFreeB) = true := by decide
 exact fun x hx => dotFree_of (List.all_eq_true.1 h x hx)
theorem name_dotFree {s : ByteArray} (h : nameB s = true) : (46 : UInt8) ∉ s.data.toList ∧ s.data.toList ≠ [] := by
 obtain ⟨-, h1, h2⟩ := (isNameR_iff _).1 h
 refine ⟨fun hh => absurd (List.all_eq_true.1 h2 _ hh) (by decide), fun e => ?_⟩
 rw [e] at h1
 cases h1
theorem good_dotFree {x : DiaD} (h : goodX x = true) : DotFree x := by
 unfold goodX rightX at h
 simp only [Bool.and_eq_true] at h
 refine ⟨(name_dotFree h.2.1.1.1.1.1.1).1, fun o ho => ?_⟩
 have hd := List.all_eq_true.1 h.2.1.1.2 o ho
 unfold rightD at hd
 simp only [Bool.and_eq_true] at hd
 exact (name_dotFree hd.1.1.1.1.1.1.1.1.1).2
theorem core_uniq : ∀ x ∈ coreD, ∀ y ∈ coreD, x.name = y.name → x = y := by
 intro x hx y hy h
 have h' : x.name.data.toList = y.name.data.toList := by rw [h]
 clear h
 simp only [coreD, List.mem_cons, List.not_mem_nil, or_false] at hx hy
 rcases hx with rfl | rfl | rfl | rfl | rfl | rfl | rfl <;> rcases hy with rfl | rfl | rfl | rfl | rfl | rfl | rfl <;> first | rfl | exact absurd h' (by decide)
theorem core_named : ∀ x ∈ coreD, x.name ∈ coreNamesL := by
 intro x hx
 simp only [coreD, List.mem_cons, List.not_mem_nil, or_false] at hx
 rcases hx with rfl | rfl | rfl | rfl | rfl | rfl | rfl <;> simp [coreNamesL]
theorem nodup_uniq : ∀ {l : List DiaD}, (l.map (·.name)).Nodup → ∀ x ∈ l, ∀ y ∈ l, x.name = y.name → x = y
 | [], _, x, hx, _, _, _ => nomatch hx
 | z :: l, h, x, hx, y, hy, e => by
  rw [List.map_cons, List.nodup_cons] at h
  rcases List.mem_cons.1 hx with e1 | h1 <;> rcases List.mem_cons.1 hy with e2 | h2
  ·rw [e1, e2]
  ·exact absurd (List.mem_map.2 ⟨y, h2, by rw [← e, e1]⟩) h.1
  ·exact absurd (List.mem_map.2 ⟨x, h1, by rw [e, e2]⟩) h.1
  ·exact nodup_uniq h.2 x h1 y h2 e
theorem find_uniq {α : Type} {p : α → Bool} {l : List α} {x : α} (hx : x ∈ l) (hp : p x = true) (hu : ∀ y ∈ l, p y = true → y = x) : l.find? p = some x := by
 cases hf : l.find? p with
 | none => exact absurd hp (List.find?_eq_none.1 hf x hx)
 | some y => rw [hu y (List.mem_of_find?_eq_some hf) (List.find?_some hf)]
theorem coreFind_eq (p : ByteArray) : coreFind p = (coreD.find? fun x => p.toList == x.name.data.toList).map (·.ops) := by
 have e : coreTab = coreD.map (fun x => (x.name.data.toList, x.ops)) := rfl
 unfold coreFind
 rw [e, List.find?_map, Option.map_map]
 rfl
theorem xs_uniq {xs : List DiaD} (h : rightXs xs = true) : ∀ x ∈ allL coreD xs, ∀ y ∈ allL coreD xs, x.name = y.name → x = y := by
 unfold rightXs at h
 simp only [Bool.and_eq_true] at h
 have hg := fun x hx => List.all_eq_true.1 h.2 x hx
 have hn : ∀ x ∈ xs, x.name ∉ coreNamesL := fun x hx hm => by
  have := hg x hx
  unfold goodX at this
  rw [(isIn_iff _ _).2 hm] at this
  cases this
 intro x hx y hy e
 rcases all_mem _ _ hx with hx | hx <;> rcases all_mem _ _ hy with hy | hy
 ·exact core_uniq x hx y hy e
 ·exact absurd (e ▸ core_named x hx) (hn y hy)
 ·exact absurd (e ▸ core_named y hy) (hn x hx)
 ·exact nodup_uniq (rise_nodup h.1.2) x hx y hy e
theorem defn_all {xs : List DiaD} (nm : ByteArray) (h : rightXs xs = true) : defnOf xs nm = allFind nm (allL coreD xs) := by
 have hu := xs_uniq h
 have hok : ∀ x ∈ allL coreD xs, DotFree x := fun x hx => by
  rcases all_mem _ _ hx with hx | hx
  ·exact core_dotFree x hx
  ·unfold rightXs at h
   simp only [Bool.and_eq_true] at h
   exact good_dotFree (List.all_eq_true.1 h.2 x hx)
 rw [allFind_eq _ hok hu]
 unfold defnOf
 rw [coreFind_eq]
 cases hc : coreD.find? (fun x => (preB nm).toList == x.name.data.toList) with
 | some x =>
  have hm := mem_all (z := x) coreD xs (.inl (List.mem_of_find?_eq_some hc))
  have hp : (x.name.toList == (preB nm).toList) = true := by
   have := List.find?_some hc
   rw [beq_iff_eq] at this ⊢
   rw [this, ByteArray.toList_eq]
  rw [find_uniq hm hp fun y hy hpy => hu y hy x hm ((bytes_eq_iff.1 hpy).trans (bytes_eq_iff.1 hp).symm)]
  rfl
 | none =>
  have hno : ∀ x ∈ coreD, ¬ (x.name.toList == (preB nm).toList) = true := fun x hx hp => by
   refine List.find?_eq_none.1 hc x hx ?_
   rw [beq_iff_eq] at hp ⊢
   rw [← hp, ByteArray.toList_eq]
  show (match xs.find? (fun x => x.name.toList == (preB nm).toList) with | some x => findD x.ops (ownB nm) | none => none) = _
  cases hf : xs.find? (fun x => x.name.toList == (preB nm).toList) with
  | some y =>
   have hm := mem_all (z := y) coreD xs (.inr (List.mem_of_find?_eq_some hf))
   have hp := List.find?_some hf
   rw [find_uniq hm hp fun z hz hpz => hu z hz y hm ((bytes_eq_iff.1 hpz).trans (bytes_eq_iff.1 hp).symm)]
  | none =>
   rw [List.find?_eq_none.2 fun z hz => (all_mem _ _ hz).elim (hno z) (List.find?_eq_none.1 hf z)]
def zeroD : DefD := ⟨⟨#[]⟩, [], [], [], 0, 0, []⟩
def zeroE : DEl := ⟨zeroD, none, 0, none, 0, none, 0, none, 0⟩
theorem zero_ok (w : World) : DefOK w ⟨zeroD, none, 0, none, 0, none, 0, none, 0⟩ := ⟨.inl rfl, .inl rfl, .inl rfl, .inl rfl, Nat.le_refl _, Nat.le_refl _, Nat.le_refl _, Nat.le_refl _⟩
theorem zero_short : DefShort zeroD := ⟨by decide, by decide, by decide, by decide⟩
theorem same_zero (w : World) : Calls Tryz.prog 21 #[.agg #[.string ⟨#[]⟩, .slice none 0 0, .slice none 0 0, .slice none 0 0, .int .i64 0, .int .i64 0, .slice none 0 0], .agg #[.string ⟨#[]⟩, .slice none 0 0, .slice none 0 0, .slice none 0 0, .int .i64 0, .int .i64 0, .slice none 0 0]] w fun e w' => e = .returned (.bool true) ∧ Below w.heap.size w w' :=
 sameDef_yes zeroD zero_short none 0 none 0 none 0 none 0 none 0 none 0 none 0 none 0 w (zero_ok w) (zero_ok w)
theorem smallX_fit {x : XEl} (h : SmallX x) : DiaFit x.d := by
 refine ⟨fun d hd => ?_, ?_, ?_⟩
 ·obtain ⟨e, he, rfl⟩ := List.mem_map.1 hd
  exact (h.each e he).fit
 ·have := h.lt
  show x.types.length ≤ _
  omega
 ·have := h.lo
  show (x.ops.map (·.d)).length ≤ _
  rw [List.length_map]
  omega
set_option maxHeartbeats 16000000 in
set_option maxRecDepth 100000 in
theorem DialectFinds_any (ao : Option Addr) (xs : List XEl) (c0 : Nat) (nm : ByteArray) (hs : ∀ x ∈ xs, SmallX x) (hn : ∀ x ∈ xs, NameSmall x.d) (hl : xs.length ≤ 1048576) (hz : nm.size < 4294967281) (w : World) (hd : DiasAt w ao xs) (hE : Env w) :
  Calls Tryz.prog 4 #[.slice ao xs.length c0, .string nm] w fun e w' => e = .returned (.bool true) ∧ Below w.heap.size w w' := by
 have HLP := hid (LProg_any ao xs c0 hs hl w hd)
 have HS := hid hs
 have HN := hid hn
 have HL := hid hl
 have HZ := hid hz
 have HD := hid hd
 have HE := hid hE
 clear hs hn hl hz hd hE
 go_enter Tryz.func4, Tryz.ntmps4
 go_wp2_with fail
 refine HLP.out.mono ?_
 rintro e w1 ⟨hb, yo, ys, yc, rfl, hyd, hyo, -⟩
 have B1 := hid hb
 have HFA := hid (Find_any yo ys yc (by have := congrArg List.length hyd; rw [List.length_map, List.length_map] at this; have := HL.out; omega) (fun x hx => by
  have hm : x.d ∈ xs.map XEl.d := hyd ▸ List.mem_map.2 ⟨x, hx, rfl⟩
  obtain ⟨z, hz, e⟩ := List.mem_map.1 hm
  rw [← e]
  exact smallX_fit (HS.out z hz)) nm HZ.out w1 hyo (HE.out.below hb))
 rw [hyd] at HFA
 clear hb hyd hyo HLP
 go_wp2_with fail
 refine HFA.out.mono ?_
 rintro e w2 ⟨hb, hp⟩
 have B2 := hid (B1.out.trans (hb.mono B1.out.size))
 obtain ⟨y, he, rfl, hyo, hc⟩ : ∃ (y : DEl) (he : Int), e = .returned (.tuple #[y.val, .int .i64 he]) ∧ DefOK w2 y ∧
   ((rightXs (xs.map XEl.d) = false ∧ he = 50 ∧ y = zeroE) ∨ (rightXs (xs.map XEl.d) = true ∧ defnOf (xs.map XEl.d) nm = none ∧ he = 4 ∧ y = zeroE) ∨ (rightXs (xs.map XEl.d) = true ∧ defnOf (xs.map XEl.d) nm = some y.d ∧ he = 0)) := by
  rcases hp with ⟨h1, rfl⟩ | ⟨h1, h2, rfl⟩ | ⟨h1, y, h2, h3, rfl⟩
  ·exact ⟨zeroE, 50, rfl, zero_ok _, .inl ⟨h1, rfl, rfl⟩⟩
  ·exact ⟨zeroE, 4, rfl, zero_ok _, .inr (.inl ⟨h1, h2, rfl, rfl⟩)⟩
  ·exact ⟨y, 0, rfl, h3, .inr (.inr ⟨h1, h2, rfl⟩)⟩
 have HYO := hid hyo
 have HC := hid hc
 clear hb hp hc HFA hyo
 unfold DEl.val
 go_upto_region 2 with fail
 have T4 := hid (heap_alloc_new w2 (.cells #[.string y.d.name, .slice y.io y.d.ins.length y.ic, .slice y.oo y.d.outs.length y.oc, .slice y.no y.d.needs.length y.nc, .int .i64 y.d.regions, .int .i64 y.d.succs, .slice y.ko y.d.traits.length y.kc] 36))
 have HB4 := hid (new_below w2 (.cells #[.string y.d.name, .slice y.io y.d.ins.length y.ic, .slice y.oo y.d.outs.length y.oc, .slice y.no y.d.needs.length y.nc, .int .i64 y.d.regions, .int .i64 y.d.succs, .slice y.ko y.d.traits.length y.kc] 36))
 generalize w2.alloc (.cells #[.string y.d.name, .slice y.io y.d.ins.length y.ic, .slice y.oo y.d.outs.length y.oc, .slice y.no y.d.needs.length y.nc, .int .i64 y.d.regions, .int .i64 y.d.succs, .slice y.ko y.d.traits.length y.kc] 36) = W4 at T4 HB4 ⊢
 have B4 := hid (B2.out.trans (HB4.out.mono B2.out.size))
 have HDL := hid B2.out.size
 generalize hD : w2.heap.size = D at T4 HDL ⊢
 have HDE := hid hD
 clear hD
 go_wp2_with fail
 refine (RFind_any ao xs c0 HL.out HN.out nm W4 (HD.out.below B4.out)).mono ?_
 rintro e w5 ⟨hb, hp⟩
 have T5 := hid ((hb.block _ (lt_of_block T4.out)).trans T4.out)
 have B5 := hid (B4.out.trans (hb.mono B4.out.size))
 have HB5 := hid (HB4.out.trans (hb.mono HB4.out.size))
 obtain ⟨z, ok, rfl, hzo, hzc⟩ : ∃ (z : DEl) (ok : Bool), e = .returned (.tuple #[z.val, .bool ok]) ∧ DefOK w5 z ∧ ((ok = false ∧ allFind nm (allL coreD (xs.map XEl.d)) = none) ∨ (ok = true ∧ allFind nm (allL coreD (xs.map XEl.d)) = some z.d)) := by
  rcases hp with ⟨h1, rfl⟩ | ⟨y, h1, h2, rfl⟩
  ·exact ⟨⟨zeroD, none, 0, none, 0, none, 0, none, 0⟩, false, rfl, zero_ok _, .inl ⟨rfl, h1⟩⟩
  ·exact ⟨y, true, rfl, h2, .inr ⟨rfl, h1⟩⟩
 have HZO := hid hzo
 have HZC := hid hzc
 clear hb hp hzo hzc
 unfold DEl.val
 go_upto_region 3 with fail
 have T6 := hid (heap_alloc_new w5 (.cells #[.string z.d.name, .slice z.io z.d.ins.length z.ic, .slice z.oo z.d.outs.length z.oc, .slice z.no z.d.needs.length z.nc, .int .i64 z.d.regions, .int .i64 z.d.succs, .slice z.ko z.d.traits.length z.kc] 41))
 have HB6 := hid (new_below w5 (.cells #[.string z.d.name, .slice z.io z.d.ins.length z.ic, .slice z.oo z.d.outs.length z.oc, .slice z.no z.d.needs.length z.nc, .int .i64 z.d.regions, .int .i64 z.d.succs, .slice z.ko z.d.traits.length z.kc] 41))
 generalize w5.alloc (.cells #[.string z.d.name, .slice z.io z.d.ins.length z.ic, .slice z.oo z.d.outs.length z.oc, .slice z.no z.d.needs.length z.nc, .int .i64 z.d.regions, .int .i64 z.d.succs, .slice z.ko z.d.traits.length z.kc] 41) = W6 at T6 HB6 ⊢
 have B6 := hid (B5.out.trans (HB6.out.mono B5.out.size))
 have T6d := hid ((HB6.out.block _ (lt_of_block T5.out)).trans T5.out)
 have HYO6 := hid ((HYO.out.below HB5.out).below HB6.out)
 have HZO6 := hid (HZO.out.below HB6.out)
 clear T5 HYO HZO
 generalize hC : w5.heap.size = C at T6 ⊢
 have HCE := hid hC
 clear hC
 go_wp2_with fail
 refine (RRight_any ao xs c0 HS.out HL.out W6 (HD.out.below B6.out)).mono ?_
 rintro e w7 ⟨rfl, hb⟩
 have T7 := hid ((hb.block _ (lt_of_block T6.out)).trans T6.out)
 have T7d := hid ((hb.block _ (lt_of_block T6d.out)).trans T6d.out)
 have B7 := hid (B6.out.trans (hb.mono B6.out.size))
 have HYO7 := hid (HYO6.out.below hb)
 have HZO7 := hid (HZO6.out.below hb)
 clear hb T6 T6d HYO6 HZO6
 obtain ⟨g0, g1, g2, g3, g4, g5, g6, gf⟩ := dcells7 T7d.out
 obtain ⟨j0, j1, j2, j3, j4, j5, j6, jf⟩ := dcells7 T7.out
 rcases HC.out with ⟨hr, rfl, rfl⟩ | ⟨hr, hdn, rfl, rfl⟩ | ⟨hr, hdn, rfl⟩
 ·rw [hr]
  clear hr HC
  go_wp2_with fail
  refine (same_zero w7).mono ?_
  rintro e w8 ⟨rfl, hb⟩
  have B8 := hid (B7.out.trans (hb.mono B7.out.size))
  clear hb
  go_wp2_with fail
  refine (awake5_any _ (HE.out.below B8.out)).mono ?_
  rintro e w9 ⟨rfl, hb⟩
  have B9 := hid (B8.out.trans (hb.mono B8.out.size))
  clear hb
  go_wp2_with fail
  go_ret
  exact ⟨rfl, B9.out⟩
 ·obtain ⟨rfl, -⟩ | ⟨rfl, h⟩ := HZC.out
  rotate_left
  ·rw [← defn_all nm hr, hdn] at h
   cases h
  rw [hr]
  clear hr HC hdn HZC
  go_wp2_with fail
  refine (same_zero w7).mono ?_
  rintro e w8 ⟨rfl, hb⟩
  have B8 := hid (B7.out.trans (hb.mono B7.out.size))
  clear hb
  go_wp2_with fail
  refine (awake5_any _ (HE.out.below B8.out)).mono ?_
  rintro e w9 ⟨rfl, hb⟩
  have B9 := hid (B8.out.trans (hb.mono B8.out.size))
  clear hb
  go_wp2_with fail
  go_ret
  exact ⟨rfl, B9.out⟩
 ·have HSH := hid (defn_short hr hdn)
  obtain ⟨rfl, h⟩ | ⟨rfl, h⟩ := HZC.out
  ·rw [← defn_all nm hr, hdn] at h
   cases h
  have hyz : y.d = z.d := by
   rw [← defn_all nm hr, hdn] at h
   exact Option.some.inj h
  rw [hr]
  clear h
  have HSD := hid (fun (X : World) (h : Below w7.heap.size w7 X) => sameDef_yes y.d HSH.out y.io y.ic y.oo y.oc y.no y.nc y.ko y.kc z.io z.ic z.oo z.oc z.no z.nc z.ko z.kc X (HYO7.out.below h) (show DefOK X ⟨y.d, z.io, z.ic, z.oo, z.oc, z.no, z.nc, z.ko, z.kc⟩ by rw [hyz]; exact HZO7.out.below h))
  clear hr HC hdn HZC
  rw [← hyz] at j0 j1 j2 j3 j4 j5 j6 ⊢
  clear hyz
  go_wp2_with fail
  refine (HSD.out w7 (Below.refl _ _)).mono ?_
  rintro e w8 ⟨rfl, hb⟩
  have B8 := hid (B7.out.trans (hb.mono B7.out.size))
  clear hb HSD
  go_wp2_with fail
  refine (awake5_any _ (HE.out.below B8.out)).mono ?_
  rintro e w9 ⟨rfl, hb⟩
  have B9 := hid (B8.out.trans (hb.mono B8.out.size))
  clear hb
  go_wp2_with fail
  go_ret
  exact ⟨rfl, B9.out⟩
end Go.Proofs.YtgimdkgjfenafaaGreatDoor
