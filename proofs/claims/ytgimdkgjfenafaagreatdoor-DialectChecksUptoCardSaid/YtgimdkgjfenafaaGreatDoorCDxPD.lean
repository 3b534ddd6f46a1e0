import Derived.Test.YtgimdkgjfenafaaGreatDoorCJDxPB
import Derived.Test.YtgimdkgjfenafaaGreatDoorCG44
import Derived.BigQuiet
import Derived.Test.YtgimdkgjfenafaaGreatDoorCG34
import Derived.Deep.Upon
namespace Go.Proofs.YtgimdkgjfenafaaGreatDoor
open Go.RowKit
open Lib (hid)
def allL : List DiaD → List DiaD → List DiaD
 | [], xs => xs
 | c :: cs, [] => c :: cs
 | c :: cs, x :: xs => if Op.bytesLess c.name.toList x.name.toList then c :: allL cs (x :: xs) else x :: allL (c :: cs) xs
termination_by a b => a.length + b.length
theorem all_nil (l : List DiaD) : allL l [] = l := by cases l <;> rw [allL]
theorem drop_cons' {α : Type} {rs : List α} {m : Nat} {r : α} (h : rs[m]? = some r) : rs.drop m = r :: rs.drop (m + 1) := by
 obtain ⟨hl, hv⟩ := List.getElem?_eq_some_iff.1 h
 rw [List.drop_eq_getElem_cons hl, hv]
structure AllS (B N : Nat) (cs xs : List DiaD) (W1 : World) (i k : Nat) (vo : Option Addr) (cp : Nat) (ys : List XEl) (wr : World) : Prop where
 below : Below W1.heap.size W1 wr
 row : wr.ownsRow W1.heap.size 87 3 (.slice vo ys.length cp) ys.length (ys.flatMap XEl.cells)
 so : ys.map XEl.d ++ allL (cs.drop i) (xs.drop k) = allL cs xs
 ok : ∀ y ∈ ys, DiaOK (pin B N none W1) y
 len : ys.length = i + k
theorem info_rdia : InfoIs 87 3 := infoIs (by kernel_rfl)
theorem AllS.next {B N : Nat} {cs xs : List DiaD} {W1 : World} {i k i' k' : Nat} {vo vo' : Option Addr} {cp cp' : Nat} {ys : List XEl} {wr w5 : World} {y : XEl} (h : AllS B N cs xs W1 i k vo cp ys wr) (hy : DiaOK (pin B N none W1) y)
  (hb : Below W1.heap.size W1 w5) (hown : w5.ownsRow W1.heap.size 87 3 (.slice vo' (ys.length + 1) cp') (ys.length + 1) (ys.flatMap XEl.cells ++ [.string y.name, .slice y.yo y.types.length y.yc, .slice y.po y.ops.length y.pc]))
  (hso : allL (cs.drop i) (xs.drop k) = y.d :: allL (cs.drop i') (xs.drop k')) (hl : i' + k' = i + k + 1) : AllS B N cs xs W1 i' k' vo' cp' (ys ++ [y]) w5 := by
 refine ⟨hb, ?_, ?_, fun z hz => ?_, by rw [List.length_append, h.len, List.length_singleton]; omega⟩
 ·rw [List.length_append, List.flatMap_append, List.flatMap_singleton]
  exact hown
 ·rw [← h.so, hso, List.map_append, List.append_assoc]
  rfl
 ·rcases List.mem_append.1 hz with hz | hz
  ·exact h.ok z hz
  ·obtain rfl := List.mem_singleton.1 hz
   exact hy
def RAllP (B : Nat) (xs : List DiaD) (w : World) (e : Ending) (w' : World) : Prop := Below w.heap.size w w' ∧ ∃ (ys : List XEl) (ao : Option Addr) (c : Nat), e = .returned (.slice ao ys.length c) ∧ ys.map XEl.d = allL coreD xs ∧ (RowIs w' ao ys.length (ys.flatMap XEl.cells) ∧ ∀ y ∈ ys, DiaOK (pin B w.heap.size none w') y) ∧ ys.length = 7 + xs.length
set_option maxHeartbeats 32000000 in
set_option maxRecDepth 100000 in
theorem RAll_any (ao : Option Addr) (xs : List XEl) (c0 : Nat) (hl : xs.length ≤ 1048576) (w : World) (B : Nat) (hd : RowIs w ao xs.length (xs.flatMap XEl.cells) ∧ ∀ x ∈ xs, DiaOK (pin B w.heap.size none w) x) : Calls Tryz.prog 44 #[.slice ao xs.length c0] w (RAllP B (xs.map XEl.d) w) := by
 have HD := hid hd
 have HL := hid hl
 have hli : (xs.length : Int) ≤ 1048576 := by omega
 have HAT := hid (show ∀ (j : Nat) (x : XEl), xs[j]? = some x → (xs.map XEl.d)[j]? = some x.d from fun j x h => by rw [List.getElem?_map, h]; rfl)
 have HLM := hid (show (xs.map XEl.d).length = xs.length from List.length_map _)
 generalize xs.map XEl.d = ds at HAT HLM ⊢
 clear hd hl
 go_enter Tryz.func44, Tryz.ntmps44
 go_wp2_with fail
 refine (RCore_any w).mono ?_
 rintro e w1 ⟨cs, co, cc, rfl, hcd, hcs, -, hb⟩
 have B1 := hid hb
 have hc7 : cs.length = 7 := by have := congrArg List.length hcd; rw [List.length_map] at this; exact this
 have HCS := hid (show RowIs w1 co cs.length (cs.flatMap XEl.cells) ∧ ∀ y ∈ cs, DiaOK (pin B w.heap.size none w1) y from ⟨(hcs.keeps above_to).1, fun y hy => (hcs.2 y hy).keeps (above_pin (Nat.le_refl _) (fun k e => nomatch e))⟩)
 have HX := hid (show RowIs w1 ao xs.length (xs.flatMap XEl.cells) ∧ ∀ y ∈ xs, DiaOK (pin B w.heap.size none w1) y from ⟨HD.out.1.below hb, fun y hy => (HD.out.2 y hy).keeps (pin_below hb)⟩)
 have HCT := hid (show ∀ (j : Nat) (x : XEl), cs[j]? = some x → coreD[j]? = some x.d from fun j x h => by rw [← hcd, List.getElem?_map, h]; rfl)
 have HC7 := hid hc7
 have HCL := hid (show coreD.length = 7 from rfl)
 clear hb hcd hcs
 obtain ⟨cd, hcd⟩ : ∃ cd, cd = coreD := ⟨_, rfl⟩
 rw [← hcd] at HCT HCL
 have HCD := hid hcd
 clear hcd
 go_wp2_with fail
 go_loopw [3, 5, 6] (fun ov iv kv wr => ∃ (i k : Nat) (vo : Option Addr) (cp : Nat) (ys : List XEl), i ≤ 7 ∧ k ≤ xs.length ∧ ov = .slice vo ys.length cp ∧ iv = .int .i64 i ∧ kv = .int .i64 k ∧ Hid (AllS B w.heap.size cd ds w1 i k vo cp ys wr)) (fun _ iv kv _ => (7 - (intOf iv).toNat) + (xs.length - (intOf kv).toNat))
 case atStart => exact ⟨0, 0, none, 0, [], Nat.zero_le _, Nat.zero_le _, rfl, rfl, rfl, ⟨Below.refl _ _, World.ownsRow_nil _ _ _ _, rfl, (fun y h => by cases h), rfl⟩⟩
 case round =>
  obtain ⟨i, k, vo, cp, ys, hi, hk, rfl, rfl, rfl, HA⟩ := hrel
  have HBR := hid (B1.out.trans (HA.out.below.mono B1.out.size))
  have hii : (i : Int) ≤ 7 := by omega
  have hkk : (k : Int) ≤ (xs.length : Int) := by omega
  have HNN := hid (show ys.length ≤ 2000000 by have := HA.out.len; have := HL.out; omega)
  have hcl : (cs.length : Int) = 7 := by omega
  by_cases hend : i = 7 ∧ k = xs.length
  ·obtain ⟨rfl, rfl⟩ := hend
   have hg1 : ¬ ((7 : Nat) : Int) < (cs.length : Int) := by omega
   have hg2 : ¬ ((xs.length : Int) < (xs.length : Int)) := by omega
   have HSO := hid (show ys.map XEl.d = allL cd ds by
    have := HA.out.so
    rw [(List.drop_eq_nil_of_le (by rw [HCL.out]; exact Nat.le_refl _) : cd.drop 7 = []), (List.drop_eq_nil_of_le (by rw [HLM.out]; exact Nat.le_refl _) : ds.drop xs.length = []), allL, List.append_nil] at this
    exact this)
   clear hi hk
   go_wp2_with fail
   go_ret
   exact ⟨HBR.out, ys, vo, cp, rfl, by rw [← HCD.out]; exact HSO.out, ⟨(row_own HA.out.row).1, fun y hy => (HA.out.ok y hy).keeps (pin_below HA.out.below)⟩, by rw [HLM.out]; exact HA.out.len⟩
  have HEND := hid hend
  have HI := hid hi
  have HK := hid hk
  clear hend hi hk
  have HOUT := hid HA.out.row
  have HSZ := hid HA.out.below.size
  -- which one comes next
  by_cases hkl : k = xs.length
  ·have hil : i < 7 := by have := HEND.out; have := HI.out; omega
   have hg : (i : Int) < 7 := by omega
   have hq : ((k : Int) == (xs.length : Int)) = true := by rw [hkl]; exact beq_self_eq_true _
   have hjs := List.getElem?_eq_getElem (show i < cs.length by omega)
   obtain ⟨bk, o, e1, kk⟩ := RowIs.at xel_len (HCS.out.1.below HA.out.below) hjs
   have hok := HCS.out.2 _ (List.getElem_mem (show i < cs.length by omega))
   obtain rfl : co = _ := e1
   generalize cs[i]'_ = y at hjs kk hok
   have k0 := kk 0 _ rfl
   have k1 := kk 1 _ rfl
   have k2 := kk 2 _ rfl
   rw [Nat.add_zero] at k0
   have HNX := hid (show allL (cd.drop i) (ds.drop k) = y.d :: allL (cd.drop (i + 1)) (ds.drop k) by
    rw [drop_cons' (HCT.out i y hjs), (List.drop_eq_nil_of_le (by rw [HLM.out]; omega) : ds.drop k = []), all_nil, all_nil])
   have HOK := hid hok
   have HIL := hid hil
   clear kk hjs hok hil hkl
   go_wp2_with fail
   go_quiet (fail)
   go_wp2_with (at_builtin; refine wp_append_own rfl 22 87 3 Tryz.underlying22 info_rdia (by decide) _ _ rfl (show (wr.drewN _).ownsRow _ _ _ _ _ _ from HOUT.out) (show _ ≤ (wr.drewN _).heap.size from HSZ.out) HNN.out rfl rfl rfl rfl ?_; intro ao5 c5 w5 hown hbel hkp; have HO5 := hid hown; have HB5 := hid hbel; clear hown hbel hkp)
   go_roundw
   case rel => exact ⟨i + 1, k, ao5, c5, ys ++ [y], HIL.out, HK.out, by rw [List.length_append, List.length_singleton], by go_num, rfl, HA.out.next HOK.out ((drawn_same HA.out.below _).trans HB5.out) HO5.out HNX.out (by omega)⟩
   case measure => have := HIL.out; have := HK.out; simp only [intOf]; omega
  have hkl2 : k < xs.length := by have := HK.out; omega
  have hq : ((k : Int) == (xs.length : Int)) = false := beq_eq_false_iff_ne.2 (by omega)
  have hkl3 : (k : Int) < (xs.length : Int) := by omega
  have hjs := List.getElem?_eq_getElem hkl2
  obtain ⟨bk, o, e1, kk⟩ := RowIs.at xel_len (HX.out.1.below HA.out.below) hjs
  have hok := HX.out.2 _ (List.getElem_mem hkl2)
  obtain rfl : ao = _ := e1
  generalize xs[k]'hkl2 = y at hjs kk hok
  have k0 := kk 0 _ rfl
  have k1 := kk 1 _ rfl
  have k2 := kk 2 _ rfl
  rw [Nat.add_zero] at k0
  have HYD := hid (HAT.out k y hjs)
  have HOK := hid hok
  have HKL := hid hkl2
  clear kk hjs hok hkl hkl2
  by_cases hil : i = 7
  ·have hg : decide ((i : Int) < 7) = false := decide_eq_false (by omega)
   have hg2 : ¬ (i : Int) < 7 := by omega
   have HNX := hid (show allL (cd.drop i) (ds.drop k) = y.d :: allL (cd.drop i) (ds.drop (k + 1)) by
    rw [drop_cons' HYD.out, (List.drop_eq_nil_of_le (by rw [HCL.out]; omega) : cd.drop i = []), allL, allL])
   clear hil
   go_wp2_with fail
   go_quiet (fail)
   go_wp2_with (at_builtin; refine wp_append_own rfl 22 87 3 Tryz.underlying22 info_rdia (by decide) _ _ rfl (show (wr.drewN _).ownsRow _ _ _ _ _ _ from HOUT.out) (show _ ≤ (wr.drewN _).heap.size from HSZ.out) HNN.out rfl rfl rfl rfl ?_; intro ao5 c5 w5 hown hbel hkp; have HO5 := hid hown; have HB5 := hid hbel; clear hown hbel hkp)
   go_roundw
   case rel => exact ⟨i, k + 1, ao5, c5, ys ++ [y], HI.out, HKL.out, by rw [List.length_append, List.length_singleton], rfl, by go_num, HA.out.next HOK.out ((drawn_same HA.out.below _).trans HB5.out) HO5.out HNX.out (by omega)⟩
   case measure => have := HKL.out; simp only [intOf]; omega
  have hil2 : i < 7 := by have := HI.out; omega
  have hg : (i : Int) < 7 := by omega
  have hjs := List.getElem?_eq_getElem (show i < cs.length by omega)
  obtain ⟨bj, p, e1, kk⟩ := RowIs.at xel_len (HCS.out.1.below HA.out.below) hjs
  have hok := HCS.out.2 _ (List.getElem_mem (show i < cs.length by omega))
  obtain rfl : co = _ := e1
  generalize cs[i]'_ = z at hjs kk hok
  have j0 := kk 0 _ rfl
  have j1 := kk 1 _ rfl
  have j2 := kk 2 _ rfl
  rw [Nat.add_zero] at j0
  have HZD := hid (HCT.out i z hjs)
  have HOZ := hid hok
  have HIL := hid hil2
  clear kk hjs hok hil hil2
  have HNX := hid (show allL (cd.drop i) (ds.drop k) = if Op.bytesLess z.name.toList y.name.toList then z.d :: allL (cd.drop (i + 1)) (ds.drop k) else y.d :: allL (cd.drop i) (ds.drop (k + 1)) by
   rw [drop_cons' HYD.out, drop_cons' HZD.out, allL]
   rfl)
  cases hls : Op.bytesLess z.name.toList y.name.toList
  ·have hnx := HNX.out
   rw [hls, if_neg (by decide)] at hnx
   replace HNX := hid hnx
   clear hnx
   go_wp2_with fail
   go_quiet (fail)
   go_wp2_with (at_builtin; refine wp_append_own rfl 22 87 3 Tryz.underlying22 info_rdia (by decide) _ _ rfl (show (wr.drewN _).ownsRow _ _ _ _ _ _ from HOUT.out) (show _ ≤ (wr.drewN _).heap.size from HSZ.out) HNN.out rfl rfl rfl rfl ?_; intro ao5 c5 w5 hown hbel hkp; have HO5 := hid hown; have HB5 := hid hbel; clear hown hbel hkp)
   go_roundw
   case rel => exact ⟨i, k + 1, ao5, c5, ys ++ [y], HI.out, HKL.out, by rw [List.length_append, List.length_singleton], rfl, by go_num, HA.out.next HOK.out ((drawn_same HA.out.below _).trans HB5.out) HO5.out HNX.out (by omega)⟩
   case measure => have := HKL.out; simp only [intOf]; omega
  ·have hnx := HNX.out
   rw [hls, if_pos rfl] at hnx
   replace HNX := hid hnx
   clear hnx
   go_wp2_with fail
   go_quiet (fail)
   go_wp2_with (at_builtin; refine wp_append_own rfl 22 87 3 Tryz.underlying22 info_rdia (by decide) _ _ rfl (show (wr.drewN _).ownsRow _ _ _ _ _ _ from HOUT.out) (show _ ≤ (wr.drewN _).heap.size from HSZ.out) HNN.out rfl rfl rfl rfl ?_; intro ao5 c5 w5 hown hbel hkp; have HO5 := hid hown; have HB5 := hid hbel; clear hown hbel hkp)
   go_roundw
   case rel => exact ⟨i + 1, k, ao5, c5, ys ++ [z], HIL.out, HK.out, by rw [List.length_append, List.length_singleton], by go_num, rfl, HA.out.next HOZ.out ((drawn_same HA.out.below _).trans HB5.out) HO5.out HNX.out (by omega)⟩
   case measure => have := HIL.out; simp only [intOf]; omega
structure NameSmall (x : DiaD) : Prop where
 zn : x.name.size ≤ 1048576
 lo : x.ops.length ≤ 1048576
 each : ∀ o ∈ x.ops, o.name.size ≤ 1048576
theorem all_mem {z : DiaD} (a b : List DiaD) (h : z ∈ allL a b) : z ∈ a ∨ z ∈ b := by
 induction a, b using allL.induct with
 | case1 xs => rw [allL] at h; exact .inr h
 | case2 c cs => rw [allL] at h; exact .inl h
 | case3 c cs x xs hc ih =>
  rw [allL, if_pos hc] at h
  rcases List.mem_cons.1 h with h | h
  ·exact .inl (List.mem_cons.2 (.inl h))
  ·exact (ih h).imp (fun h => List.mem_cons.2 (.inr h)) id
 | case4 c cs x xs hc ih =>
  rw [allL, if_neg hc] at h
  rcases List.mem_cons.1 h with h | h
  ·exact .inr (List.mem_cons.2 (.inl h))
  ·exact (ih h).imp id (fun h => List.mem_cons.2 (.inr h))
def nameSmallB (x : DiaD) : Bool := decide (x.name.size ≤ 1048576) && decide (x.ops.length ≤ 1048576) && x.ops.all fun o => decide (o.name.size ≤ 1048576)
theorem nameSmall_of {x : DiaD} (h : nameSmallB x = true) : NameSmall x := by
 unfold nameSmallB at h
 simp only [Bool.and_eq_true, decide_eq_true_eq, List.all_eq_true] at h
 exact ⟨h.1.1, h.1.2, h.2⟩
theorem core_nameSmall : ∀ x ∈ coreD, NameSmall x := by
 have h : (coreD.all nameSmallB) = true := by decide
 exact fun x hx => nameSmall_of (List.all_eq_true.1 h x hx)
theorem row_at {w : World} {bk o : Nat} {cs : List Value} (h : ∀ j v, cs[j]? = some v → w.cell? ⟨bk, o + j, none⟩ = some v) : ∀ j v, cs[j]? = some v → w.cell? ((⟨bk, o, none⟩ : Addr).add j) = some v := fun j v hj => by
 rw [show (⟨bk, o, none⟩ : Addr).add j = ⟨bk, o + j, none⟩ by unfold Addr.add; split <;> simp_all]
 exact h j v hj
theorem append_row {T E ty : TypeId} {sz : Nat} (hT : Tryz.prog.underlying T = some (.slice E)) (hI : InfoIs E sz) (hsz : 0 < sz) {w : World} {B : Nat} {ao : Option Addr} {n c m : Nat} {xs news : List Value} (h : w.ownsRow B E sz (.slice ao n c) n xs) (hB : B ≤ w.heap.size) (h3 : n + m ≤ 2000000)
  {xo : Option Addr} {cx : Nat} (hx : RowIs w xo m news) (hx0 : m = 0 → xo = none ∨ ∃ bk o, xo = some ⟨bk, o, none⟩) (hn : news.length = m * sz) (h1 : news.all Value.oneCell' = true) :
  ∃ ao' c' w', (Builtin.append_ #[T, T] ty #[.slice ao n c, .slice xo m cx]).run Tryz.prog w = .ok (.slice ao' (n + m) c') w' ∧
   w'.ownsRow B E sz (.slice ao' (n + m) c') (n + m) (xs ++ news) ∧ Below B w w' := by
 obtain ⟨i, z, hi, hz, hs, hzs, hby⟩ := hI
 have hcase : (m = 0 ∧ xo = none) ∨ ∃ bk o, xo = some ⟨bk, o, none⟩ ∧ ∀ j v, news[j]? = some v → w.cell? ⟨bk, o + j, none⟩ = some v := by
  rcases hx with hx | ⟨bk, o, e, hc⟩
  ·rcases hx0 hx with e | ⟨bk, o, e⟩
   ·exact .inl ⟨hx, e⟩
   ·refine .inr ⟨bk, o, e, fun j v hj => ?_⟩
    rw [(List.eq_nil_of_length_eq_zero (by rw [hn, hx, Nat.zero_mul]) : news = [])] at hj
    cases hj
  ·exact .inr ⟨bk, o, e, hc⟩
 rcases hcase with ⟨rfl, rfl⟩ | ⟨bk, o, rfl, hc⟩
 ·obtain rfl : news = [] := List.eq_nil_of_length_eq_zero (by rw [hn, Nat.zero_mul])
  have hc := (row_own h).2
  have hr := run_append_nothing (P := Tryz.prog) w T T ty E i hT hi ao n c hc (.slice none 0 cx) (Src.ofNil w hT cx)
  exact ⟨ao, c, w, hr, by rw [List.append_nil]; exact h, Below.refl _ _⟩
 ·obtain ⟨v', w', hr, g1, g2, _, g4⟩ := run_append_own_at (P := Tryz.prog) w B T ty E i z sz i.bytes hT hi hz hs rfl hzs hsz
   (.slice ao n c) n xs h ⟨bk, o, none⟩ m cx news hn (row_at hc) (fun u hu => List.all_eq_true.1 h1 u hu) (by simp only [maxLen]; omega) (Nat.le_trans (Nat.mul_le_mul (show n + m ≤ 2000001 by omega) hby) (by decide)) hB
  obtain ⟨ao', c', rfl⟩ : ∃ ao' c', v' = .slice ao' (n + m) c' := by
   rcases g1.2 with ⟨rfl, h0⟩ | ⟨g, cap, cur, rfl, _⟩
   ·exact ⟨none, 0, by rw [h0]⟩
   ·exact ⟨_, _, rfl⟩
  refine ⟨ao', c', w', hr, g1, g2.os, g2.tape, g2.output, g2.size, fun k hkB => ?_⟩
  exact g2.block k (by omega) (by rw [own_block]; exact fun e => by have := (own_lt' h k e).1; omega)
def gtB (x s : ByteArray) : Bool := !Op.bytesLess x.toList s.toList && !(x.toList == s.toList)
def atR (out : List ByteArray) (s : ByteArray) : Nat → Nat
 | 0 => 0
 | n + 1 => if gtB (nthB out n) s = true then atR out s n else n + 1
def insR (out : List ByteArray) (s : ByteArray) : List ByteArray := (out.take (atR out s out.length) ++ [s]) ++ out.drop (atR out s out.length)
def namesOf (x : DiaD) : List ByteArray := x.ops.map fun o => (x.name ++ ⟨#[46]⟩) ++ o.name
theorem atR_le (out : List ByteArray) (s : ByteArray) : ∀ n, atR out s n ≤ n
 | 0 => Nat.le_refl _
 | n + 1 => by
  rw [atR]
  split
  ·have := atR_le out s n; omega
  ·exact Nat.le_refl _
theorem insR_len (out : List ByteArray) (s : ByteArray) : (insR out s).length = out.length + 1 := by
 have := atR_le out s out.length
 unfold insR
 simp only [List.length_append, List.length_take, List.length_drop, List.length_singleton]
 omega
theorem fold_len (l : List ByteArray) : ∀ out : List ByteArray, (l.foldl insR out).length = out.length + l.length := by
 induction l with
 | nil => intro out; rfl
 | cons s l ih => intro out; rw [List.foldl_cons, ih, insR_len, List.length_cons]; omega
structure NmS (W2 : World) (L : List ByteArray) (vo : Option Addr) (c : Nat) (outs : List ByteArray) (wr : World) : Prop where
 below : Below W2.heap.size W2 wr
 row : RowIs wr vo outs.length (outs.map .string)
 shape : (vo = none ∧ outs = [] ∧ c = 0) ∨ ∃ bk o, vo = some ⟨bk, o, none⟩
 cap : outs.length ≤ c
 cmax : c ≤ 9223372036854775807
 so : outs = L.foldl insR []
theorem NmS.on {W2 : World} {L : List ByteArray} {vo : Option Addr} {c : Nat} {outs : List ByteArray} {w w' : World} (h : NmS W2 L vo c outs w) (hb : Below w.heap.size w w') : NmS W2 L vo c outs w' :=
 ⟨h.below.trans (hb.mono h.below.size), RowIs.below h.row hb, h.shape, h.cap, h.cmax, h.so⟩
theorem ins_next {W2 : World} {L L' L2 : List ByteArray} {vo a3 : Option Addr} {c c3 m : Nat} {outs : List ByteArray} {s : ByteArray} {w w6 : World} (h : NmS W2 (L ++ L') vo c outs w) (hm : atR outs s outs.length = m) (hL : L2 = L' ++ [s])
  (g : w6.ownsRow w.heap.size 9 1 (.slice a3 (outs.length + 1) c3) (outs.length + 1) ((outs.take m).map .string ++ [.string s] ++ (outs.drop m).map .string)) (hb : Below w.heap.size w w6) : NmS W2 (L ++ L2) a3 c3 (insR outs s) w6 := by
 have e : (insR outs s).map Value.string = (outs.take m).map .string ++ [.string s] ++ (outs.drop m).map .string := by
  unfold insR
  rw [hm, List.map_append, List.map_append]
  rfl
 obtain ⟨g1, g2⟩ := row_own g
 refine ⟨h.below.trans (hb.mono h.below.size), by rw [insR_len, e]; exact g1, .inr ?_, by rw [insR_len]; exact g2, ?_, by rw [hL, ← List.append_assoc, List.foldl_append, ← h.so]; rfl⟩
 ·rcases g.2 with ⟨hv, h0⟩ | ⟨b, cap, cur, hv, _⟩
  ·exact absurd h0 (Nat.succ_ne_zero _)
  ·cases hv
   exact ⟨_, _, rfl⟩
 ·rcases g.2 with ⟨hv, h0⟩ | ⟨b, cap, cur, hv, _, _, _, hcm, _⟩
  ·exact absurd h0 (Nat.succ_ne_zero _)
  ·cases hv
   simp only [maxLen] at hcm
   omega
theorem row_strs {w : World} {vo : Option Addr} {l : List ByteArray} (h : RowIs w vo l.length (l.map .string)) : StrsAt w vo l := by
 rcases h with h | ⟨bk, o, rfl, hc⟩
 ·exact .inl (List.eq_nil_of_length_eq_zero h)
 ·refine .inr ⟨_, rfl, fun j hj => ?_⟩
  rw [show (⟨bk, o, none⟩ : Addr).add j = ⟨bk, o + j, none⟩ by unfold Addr.add; split <;> simp_all]
  exact hc j _ (by rw [List.getElem?_map, List.getElem?_eq_getElem hj]; rfl)
def RNamesP (ds : List DiaD) (w : World) (e : Ending) (w' : World) : Prop := Below w.heap.size w w' ∧ ∃ (vo : Option Addr) (outs : List ByteArray) (c : Nat), e = .returned (.slice vo outs.length c) ∧ outs = ((allL coreD ds).flatMap namesOf).foldl insR [] ∧ StrsAt w' vo outs
set_option maxHeartbeats 32000000 in
set_option maxRecDepth 100000 in
theorem RNames_any (ao : Option Addr) (xs : List XEl) (c0 : Nat) (hl : xs.length ≤ 1048576) (hs : ∀ x ∈ xs, NameSmall x.d) (hN : ((allL coreD (xs.map XEl.d)).flatMap namesOf).length ≤ 1000000) (w : World) (hd : DiasAt w ao xs) : Calls Tryz.prog 18 #[.slice ao xs.length c0] w (RNamesP (xs.map XEl.d) w) := by
 have HD := hid (show RowIs w ao xs.length (xs.flatMap XEl.cells) ∧ ∀ x ∈ xs, DiaOK (pin w.heap.size w.heap.size none w) x from ⟨hd.1, fun x hx => (hd.2 x hx).keeps (old_pin rfl (Below.refl _ _) fun k e => nomatch e)⟩)
 have HSM := hid (show ∀ x ∈ allL coreD (xs.map XEl.d), NameSmall x from fun x hx => by
  rcases all_mem _ _ hx with h | h
  ·exact core_nameSmall x h
  ·obtain ⟨y, hy, rfl⟩ := List.mem_map.1 h
   exact hs y hy)
 have HCA := hid (RAll_any ao xs c0 hl w w.heap.size HD.out)
 obtain ⟨ds, hds⟩ : ∃ ds, ds = xs.map XEl.d := ⟨_, rfl⟩
 have HXL := hid (show ds.length ≤ 1048576 by rw [hds, List.length_map]; exact hl)
 rw [← hds] at HSM HCA hN ⊢
 have HTN := hid hN
 clear hds hd hl hs HD hN
 go_enter Tryz.func18, Tryz.ntmps18
 go_wp2_with fail
 refine HCA.out.mono ?_
 rintro e w2 ⟨hb, ys, yo, yc, rfl, has, hys, hlen⟩
 have B2 := hid hb
 have HY := hid (show RowIs w2 yo ys.length (ys.flatMap XEl.cells) ∧ ∀ y ∈ ys, DiaOK w2 y from ⟨hys.1, fun y hy => (hys.2 y hy).keeps mask_to⟩)
 have HAT := hid (show ∀ (j : Nat) (x : XEl), ys[j]? = some x → (allL coreD ds)[j]? = some x.d from fun j x h => by rw [← has, List.getElem?_map, h]; rfl)
 have HAL := hid (show (allL coreD ds).length = ys.length by rw [← has, List.length_map])
 have HNL := hid (show ys.length ≤ 2000000 by rw [hlen]; have := HXL.out; omega)
 clear hb hys has HCA hlen HXL
 obtain ⟨al, hal⟩ : ∃ al, al = allL coreD ds := ⟨_, rfl⟩
 rw [← hal] at HSM HAT HAL HTN
 have HAE := hid hal
 clear hal
 have hni : (ys.length : Int) ≤ 2000000 := by have := HNL.out; omega
 go_wp2_with fail
 go_loopw [3, 5] (fun ov iv wr => ∃ (i : Nat) (vo : Option Addr) (c : Nat) (outs : List ByteArray), i ≤ ys.length ∧ ov = .slice vo outs.length c ∧ iv = .int .i64 i ∧ Hid (NmS w2 ((al.take i).flatMap namesOf) vo c outs wr)) (fun _ iv _ => ys.length - (intOf iv).toNat)
 case atStart => exact ⟨0, none, 0, [], Nat.zero_le _, rfl, rfl, ⟨Below.refl _ _, .inl rfl, .inl ⟨rfl, rfl, rfl⟩, Nat.le_refl _, by decide, rfl⟩⟩
 case round =>
  obtain ⟨i, vo, c, outs, hi, rfl, rfl, HI⟩ := hrel
  by_cases hlt : i < ys.length
  rotate_left
  ·have hge : ¬ (i : Int) < (ys.length : Int) := by omega
   have HN := hid (show outs = (al.flatMap namesOf).foldl insR [] by
    have := HI.out.so
    rwa [List.take_of_length_le (by rw [HAL.out]; omega)] at this)
   clear hlt hi
   go_wp2_with fail
   go_ret
   exact ⟨B2.out.trans (HI.out.below.mono B2.out.size), vo, outs, c, rfl, by rw [← HAE.out]; exact HN.out, row_strs HI.out.row⟩
  have hlti : (i : Int) < (ys.length : Int) := by omega
  have hjs := List.getElem?_eq_getElem hlt
  obtain ⟨bk, o, e1, kk⟩ := RowIs.at xel_len (HY.out.1.below HI.out.below) hjs
  have hok := HY.out.2 _ (List.getElem_mem hlt)
  obtain rfl : yo = _ := e1
  generalize ys[i]'hlt = y at hjs kk hok
  have hyd := HAT.out i y hjs
  have hsm := HSM.out _ (List.mem_of_getElem? hyd)
  have HCY := hid (fun (X : World) (h : Below w2.heap.size w2 X) => show X.cell? ⟨bk, o + i * 3, none⟩ = some (.string y.name) ∧ X.cell? ⟨bk, o + i * 3 + 2, none⟩ = some (.slice y.po y.ops.length y.pc) from by
   obtain ⟨bk', o', e', kk'⟩ := RowIs.at xel_len (HY.out.1.below h) hjs
   cases e'
   exact ⟨kk' 0 _ rfl, kk' 2 _ rfl⟩)
  have k2 := kk 2 _ rfl
  have HYD := hid hyd
  have HSY := hid hsm
  have HOK := hid hok
  have HLT := hid hlt
  have HOL := hid (show y.d.ops = y.ops.map (·.d) from rfl)
  have HPL := hid (show y.ops.length ≤ 1048576 from by have := hsm.lo; rwa [HOL.out, List.length_map] at this)
  have hpli : (y.ops.length : Int) ≤ 1048576 := by have := HPL.out; omega
  have HTK := hid (show (al.take (i + 1)).flatMap namesOf = (al.take i).flatMap namesOf ++ namesOf y.d by
   obtain ⟨h1, h2⟩ := List.getElem?_eq_some_iff.1 hyd
   rw [List.take_succ_eq_append_getElem h1, List.flatMap_append, h2, List.flatMap_singleton])
  clear kk hjs hok hlt hi hyd hsm
  go_wp2_with fail
  go_loopw [3, 6] (fun ov jv wr2 => ∃ (j : Nat) (vo : Option Addr) (c : Nat) (outs : List ByteArray), j ≤ y.ops.length ∧ ov = .slice vo outs.length c ∧ jv = .int .i64 j ∧ Hid (NmS w2 ((al.take i).flatMap namesOf ++ (namesOf y.d).take j) vo c outs wr2)) (fun _ jv _ => y.ops.length - (intOf jv).toNat)
  case atStart => exact ⟨0, vo, c, outs, Nat.zero_le _, rfl, rfl, by rw [List.take_zero, List.append_nil]; exact HI.out⟩
  case round =>
   obtain ⟨j, vo, c, outs, hj, rfl, rfl, HJ⟩ := hrel
   obtain ⟨k0, k2⟩ := HCY.out _ HJ.out.below
   by_cases hlt : j < y.ops.length
   rotate_left
   ·have hge : ¬ (j : Int) < (y.ops.length : Int) := by omega
    have HN := hid (show NmS w2 ((al.take (i + 1)).flatMap namesOf) vo c outs _ by
     have := HJ.out
     rw [List.take_of_length_le (show (namesOf y.d).length ≤ j by unfold namesOf; rw [List.length_map, HOL.out, List.length_map]; omega), ← HTK.out] at this
     exact this)
    clear hlt hj
    go_wp2_with fail
    go_roundw
    case rel => exact ⟨i + 1, vo, c, outs, HLT.out, rfl, by go_num, HN.out⟩
    case measure => have := HLT.out; simp only [intOf]; omega
   have hltj : (j : Int) < (y.ops.length : Int) := by omega
   have hjs := List.getElem?_eq_getElem hlt
   have hrow := (HOK.out.below HJ.out.below).ops
   obtain ⟨bj, p, e1, kk⟩ := RowIs.at del_len hrow.1 hjs
   generalize y.ops[j]'hlt = z at hjs kk
   have hzd : y.d.ops[j]? = some z.d := by rw [HOL.out, List.getElem?_map, hjs]; rfl
   have hzs := HSY.out.each _ (List.mem_of_getElem? hzd)
   have j0 := kk 0 _ rfl
   rw [Nat.add_zero] at j0
   rw [e1] at k2
   have hadd1 := add_strings y.name ⟨#[46]⟩ (by have : y.name.size ≤ 1048576 := HSY.out.zn; omega) (by decide)
   have hadd2 := add_strings (y.name ++ ⟨#[46]⟩) z.d.name (by rw [ByteArray.size_append]; have : y.name.size ≤ 1048576 := HSY.out.zn; have : (⟨#[46]⟩ : ByteArray).size = 1 := rfl; omega) (by omega)
   obtain ⟨s, hsn⟩ : ∃ s, s = (y.name ++ ⟨#[46]⟩) ++ z.d.name := ⟨_, rfl⟩
   have HNX := hid (show (namesOf y.d).take (j + 1) = (namesOf y.d).take j ++ [s] by
    have hq : (namesOf y.d)[j]? = some s := by unfold namesOf; rw [List.getElem?_map, hzd, hsn]; rfl
    obtain ⟨h1, h2⟩ := List.getElem?_eq_some_iff.1 hq
    rw [List.take_succ_eq_append_getElem h1, h2])
   rw [← hsn] at hadd2
   have HLJ := hid hlt
   have HOB := hid (show outs.length ≤ 1000000 from by
    have h1 := HJ.out.so
    have h2 := fold_len ((al.take i).flatMap namesOf ++ (namesOf y.d).take j) []
    rw [← h1, List.length_append] at h2
    have h3 : (al.flatMap namesOf).length = ((al.take (i + 1)).flatMap namesOf ++ (al.drop (i + 1)).flatMap namesOf).length := by rw [← List.flatMap_append, List.take_append_drop]
    rw [HTK.out, List.length_append, List.length_append] at h3
    have h4 := HTN.out
    have h5 : ((namesOf y.d).take j).length ≤ (namesOf y.d).length := by rw [List.length_take]; omega
    simp only [List.length_nil, Nat.zero_add] at h2
    omega)
   have hoi : (outs.length : Int) ≤ 1000000 := by have := HOB.out; omega
   clear kk hjs hrow hzd hzs hlt hj hsn
   go_wp2_with fail
   go_quiet (fail)
   have HV := hid (HJ.out.on (drawn_same (Below.refl _ _) nq))
   generalize wr.drewN nq = V at HV ⊢
   clear HJ j0 k0 k2 hadd1 hadd2
   rcases HV.out.shape with ⟨rfl, rfl, rfl⟩ | ⟨bo, oo, rfl⟩
   ·go_wp2_with fail
    go_loopw [8] (fun av wr3 => av = .int .i64 0 ∧ Hid (Below V.heap.size V wr3)) (fun _ _ => 0)
    case atStart => exact ⟨rfl, Below.refl _ _⟩
    case round =>
     obtain ⟨rfl, HM⟩ := hrel
     have HS3 := hid (HV.out.on HM.out)
     obtain ⟨a1, c1, w1, hr1, g1, b1⟩ := append_row (T := 27) (E := 9) (ty := 27) (w := wr) (B := wr.heap.size) (ao := none) (n := 0) (c := 0) (m := 0) (xs := []) (news := []) (xo := none) (cx := 0) Tryz.underlying27 info_string (by decide) (World.ownsRow_nil _ _ _ _) (Nat.le_refl _) (by decide) (.inl rfl) (fun _ => .inl rfl) rfl rfl
     have HR1 := hid hr1
     have G1 := hid g1
     have L1 := hid b1
     clear hr1 g1 b1
     go_upto_region 14 with fail
     go_upto_region 15 with (at_builtin; refine wp_run_append' rfl _ _ 27 rfl rfl rfl HR1.out ?_)
     go_upto_region 16 with (at_builtin; refine wp_append_own rfl 27 9 1 Tryz.underlying27 info_string (by decide) _ _ rfl G1.out L1.out.size (by decide) rfl rfl rfl rfl ?_; intro a2 c2 w5 g2 b2 k2'; have G2 := hid g2; have L2 := hid (L1.out.trans b2); clear g2 b2 k2')
     obtain ⟨a3, c3, w6, hr3, g3, b3⟩ := append_row (T := 27) (E := 9) (ty := 27) (m := 0) (news := []) (xo := none) (cx := 0) Tryz.underlying27 info_string (by decide) G2.out L2.out.size (by decide) (.inl rfl) (fun _ => .inl rfl) rfl rfl
     have HR3 := hid hr3
     have G3 := hid g3
     have L3 := hid (L2.out.trans b3)
     clear hr3 g3 b3
     go_wp2_with (at_builtin; refine wp_run_append' rfl _ _ 27 rfl rfl rfl HR3.out ?_)
     go_roundw
     case rel => exact ⟨j + 1, a3, c3, insR [] s, HLJ.out, rfl, by go_num, ins_next HS3.out rfl HNX.out G3.out L3.out⟩
     case measure => have := HLJ.out; simp only [intOf]; omega
   go_wp2_with fail
   go_loopw [8] (fun av wr3 => ∃ m : Nat, m ≤ outs.length ∧ av = .int .i64 m ∧ Hid (atR outs s outs.length = atR outs s m ∧ Below V.heap.size V wr3)) (fun av _ => (intOf av).toNat)
   case atStart => exact ⟨outs.length, Nat.le_refl _, rfl, rfl, Below.refl _ _⟩
   case round =>
    obtain ⟨m, hm, rfl, HM⟩ := hrel
    have hmi : (m : Int) ≤ (outs.length : Int) := by omega
    have HS3 := hid (HV.out.on HM.out.2)
    have HKQ := hid (fun (q : Nat) (hq : q < outs.length) => show ∀ X : World, Below V.heap.size V X → X.cell? ⟨bo, oo + q, none⟩ = some (.string (nthB outs q)) from fun X hX => by
     rcases (HV.out.on hX).row with h | ⟨b', o', e', hc⟩
     ·omega
     ·cases e'
      exact hc q _ (by rw [List.getElem?_map, List.getElem?_eq_getElem hq]; unfold nthB; rw [List.getElem?_eq_getElem hq]; rfl))
    by_cases hgo : 0 < m ∧ gtB (nthB outs (m - 1)) s = true
    ·obtain ⟨h0, hb⟩ := hgo
     obtain ⟨q, rfl⟩ : ∃ q, m = q + 1 := ⟨m - 1, by omega⟩
     have hq1 : ((q + 1 : Nat) : Int) - 1 = (q : Int) := by omega
     have hqlt : (q : Int) < (outs.length : Int) := by omega
     have kq := HKQ.out q (by omega) _ HM.out.2
     rw [show q + 1 - 1 = q from rfl] at hb
     have HNT := hid (show atR outs s (q + 1) = atR outs s q by rw [atR, if_pos hb])
     unfold gtB at hb
     rw [Bool.and_eq_true, Bool.not_eq_true', Bool.not_eq_true'] at hb
     obtain ⟨hb1, hb2⟩ := hb
     have hgt : (0 : Int) < ((q + 1 : Nat) : Int) := by omega
     have HQ := hid hm
     clear hm h0
     go_wp2_with fail
     go_roundw
     case rel => exact ⟨q, by have := HQ.out; omega, rfl, HM.out.1.trans HNT.out, HM.out.2⟩
     case measure => simp only [intOf]; omega
    ·have HMC := hid (show m ≤ c from Nat.le_trans hm HV.out.cap)
     have hmc : (m : Int) ≤ (c : Int) := by have := HMC.out; omega
     have HAM := hid (show atR outs s outs.length = m from HM.out.1.trans (by
      cases m with
      | zero => rfl
      | succ q => exact (show (if gtB (nthB outs q) s = true then atR outs s q else q + 1) = q + 1 from if_neg (fun h => hgo ⟨Nat.succ_pos q, h⟩))))
     have hexit : m = 0 ∨ (∃ q, m = q + 1 ∧ Op.bytesLess (nthB outs q).toList s.toList = true) ∨ (∃ q, m = q + 1 ∧ Op.bytesLess (nthB outs q).toList s.toList = false ∧ ((nthB outs q).toList == s.toList) = true) := by
      rcases Nat.eq_zero_or_pos m with h0 | h0
      ·exact .inl h0
      ·obtain ⟨q, rfl⟩ : ∃ q, m = q + 1 := ⟨m - 1, by omega⟩
       cases h1 : Op.bytesLess (nthB outs q).toList s.toList
       ·refine .inr (.inr ⟨q, rfl, h1, ?_⟩)
        cases h2 : ((nthB outs q).toList == s.toList)
        ·exact absurd ⟨h0, by unfold gtB; rw [show q + 1 - 1 = q from rfl, h1, h2]; rfl⟩ hgo
        ·rfl
       ·exact .inr (.inl ⟨q, rfl, h1⟩)
     have HLM := hid hm
     clear hgo hm
     have HRT := hid (show RowIs wr (some ⟨bo, oo, none⟩) m ((outs.take m).map .string) ∧ RowIs wr (some ⟨bo, oo + m, none⟩) (outs.length - m) ((outs.drop m).map .string) from by
      rcases HS3.out.row with h | ⟨b', o', e', hc⟩
      ·have := HLM.out
       exact ⟨.inl (by omega), .inl (by omega)⟩
      ·cases e'
       refine ⟨.inr ⟨bo, oo, rfl, fun j v hj => hc j v ?_⟩, .inr ⟨bo, oo + m, rfl, fun j v hj => ?_⟩⟩
       ·rw [List.getElem?_map, Option.map_eq_some_iff] at hj ⊢
        obtain ⟨a, ha, rfl⟩ := hj
        obtain ⟨hl, hv⟩ := List.getElem?_eq_some_iff.1 ha
        rw [List.length_take] at hl
        exact ⟨a, by rw [List.getElem?_take_of_lt (by omega)] at ha; exact ha, rfl⟩
       ·rw [Nat.add_assoc]
        exact hc (m + j) v (by rw [List.getElem?_map] at hj ⊢; rw [List.getElem?_drop] at hj; exact hj))
     obtain ⟨a1, c1, w1, hr1, g1, b1⟩ := append_row (T := 27) (E := 9) (ty := 27) (w := wr) (B := wr.heap.size) (ao := none) (n := 0) (c := 0) (m := m) (xs := []) (news := (outs.take m).map .string) (xo := some ⟨bo, oo, none⟩) (cx := c) Tryz.underlying27 info_string (by decide) (World.ownsRow_nil _ _ _ _) (Nat.le_refl _) (by have := HLM.out; have := HOB.out; omega) HRT.out.1 (fun _ => .inr ⟨bo, oo, rfl⟩) (by have := HLM.out; rw [List.length_map, List.length_take]; omega) (by rw [List.all_map]; exact List.all_eq_true.2 fun _ _ => rfl)
     rw [Nat.zero_add] at hr1 g1
     rw [List.nil_append] at g1
     have HR1 := hid hr1
     have G1 := hid g1
     have L1 := hid b1
     clear hr1 g1 b1
     have HRX := hid (show RowIs wr (if c = m then some (⟨bo, oo, none⟩ : Addr) else some (⟨bo, oo + m, none⟩ : Addr)) (outs.length - m) ((outs.drop m).map .string) ∧ ((outs.length - m = 0 → (if c = m then some (⟨bo, oo, none⟩ : Addr) else some (⟨bo, oo + m, none⟩ : Addr)) = none ∨ ∃ b o, (if c = m then some (⟨bo, oo, none⟩ : Addr) else some (⟨bo, oo + m, none⟩ : Addr)) = some (⟨b, o, none⟩ : Addr))) from by
      by_cases hcm : c = m
      ·rw [if_pos hcm]
       exact ⟨.inl (by have := HV.out.cap; omega), fun _ => .inr ⟨bo, oo, rfl⟩⟩
      ·rw [if_neg hcm]
       exact ⟨HRT.out.2, fun _ => .inr ⟨bo, oo + m, rfl⟩⟩)
     have HM2 := hid (show m ≤ 2000000 by have := HLM.out; have := HOB.out; omega)
     rcases hexit with h0 | ⟨q, h0, h1⟩ | ⟨q, h0, h1, h2⟩
     ·have hg : ¬ (0 : Int) < (m : Int) := by omega
      clear h0
      go_upto_region 14 with fail
      go_upto_region 15 with (at_builtin; refine wp_run_append' rfl _ _ 27 rfl rfl rfl HR1.out ?_)
      go_upto_region 16 with (at_builtin; refine wp_append_own rfl 27 9 1 Tryz.underlying27 info_string (by decide) _ _ rfl G1.out L1.out.size HM2.out rfl rfl rfl rfl ?_; intro a2 c2 w5 g2 b2 k2'; have G2 := hid g2; have L2 := hid (L1.out.trans b2); clear g2 b2 k2')
      obtain ⟨a3, c3, w6, hr3, g3, b3⟩ := append_row (T := 27) (E := 9) (ty := 27) (m := outs.length - m) (news := (outs.drop m).map .string) (xo := (if c = m then some (⟨bo, oo, none⟩ : Addr) else some (⟨bo, oo + m, none⟩ : Addr))) (cx := c - m) Tryz.underlying27 info_string (by decide) G2.out L2.out.size (by have := HLM.out; have := HOB.out; omega) (HRX.out.1.below L2.out) HRX.out.2 (by rw [List.length_map, List.length_drop, Nat.mul_one]) (by rw [List.all_map]; exact List.all_eq_true.2 fun _ _ => rfl)
      rw [show m + 1 + (outs.length - m) = outs.length + 1 by have := HLM.out; omega] at hr3 g3
      have HR3 := hid hr3
      have G3 := hid g3
      have L3 := hid (L2.out.trans b3)
      clear hr3 g3 b3
      go_wp2_with (at_builtin; refine wp_run_append' rfl _ _ 27 rfl rfl rfl HR3.out ?_)
      go_roundw
      case rel => exact ⟨j + 1, a3, c3, insR outs s, HLJ.out, by rw [insR_len], by go_num, ins_next HS3.out HAM.out HNX.out G3.out L3.out⟩
      case measure => have := HLJ.out; simp only [intOf]; omega
     ·have hg : (0 : Int) < (m : Int) := by omega
      have hgN : 0 < m := by omega
      have hq1 : (m : Int) - 1 = (q : Int) := by omega
      have hqlt : (q : Int) < (outs.length : Int) := by have := HLM.out; omega
      have kq := HKQ.out q (by have := HLM.out; omega) _ HM.out.2
      clear h0
      cases h2 : ((nthB outs q).toList == s.toList)
      ·go_upto_region 14 with fail
       go_upto_region 15 with (at_builtin; refine wp_run_append' rfl _ _ 27 rfl rfl rfl HR1.out ?_)
       go_upto_region 16 with (at_builtin; refine wp_append_own rfl 27 9 1 Tryz.underlying27 info_string (by decide) _ _ rfl G1.out L1.out.size HM2.out rfl rfl rfl rfl ?_; intro a2 c2 w5 g2 b2 k2'; have G2 := hid g2; have L2 := hid (L1.out.trans b2); clear g2 b2 k2')
       obtain ⟨a3, c3, w6, hr3, g3, b3⟩ := append_row (T := 27) (E := 9) (ty := 27) (m := outs.length - m) (news := (outs.drop m).map .string) (xo := (if c = m then some (⟨bo, oo, none⟩ : Addr) else some (⟨bo, oo + m, none⟩ : Addr))) (cx := c - m) Tryz.underlying27 info_string (by decide) G2.out L2.out.size (by have := HLM.out; have := HOB.out; omega) (HRX.out.1.below L2.out) HRX.out.2 (by rw [List.length_map, List.length_drop, Nat.mul_one]) (by rw [List.all_map]; exact List.all_eq_true.2 fun _ _ => rfl)
       rw [show m + 1 + (outs.length - m) = outs.length + 1 by have := HLM.out; omega] at hr3 g3
       have HR3 := hid hr3
       have G3 := hid g3
       have L3 := hid (L2.out.trans b3)
       clear hr3 g3 b3
       go_wp2_with (at_builtin; refine wp_run_append' rfl _ _ 27 rfl rfl rfl HR3.out ?_)
       go_roundw
       case rel => exact ⟨j + 1, a3, c3, insR outs s, HLJ.out, by rw [insR_len], by go_num, ins_next HS3.out HAM.out HNX.out G3.out L3.out⟩
       case measure => have := HLJ.out; simp only [intOf]; omega
      ·go_upto_region 14 with fail
       go_upto_region 15 with (at_builtin; refine wp_run_append' rfl _ _ 27 rfl rfl rfl HR1.out ?_)
       go_upto_region 16 with (at_builtin; refine wp_append_own rfl 27 9 1 Tryz.underlying27 info_string (by decide) _ _ rfl G1.out L1.out.size HM2.out rfl rfl rfl rfl ?_; intro a2 c2 w5 g2 b2 k2'; have G2 := hid g2; have L2 := hid (L1.out.trans b2); clear g2 b2 k2')
       obtain ⟨a3, c3, w6, hr3, g3, b3⟩ := append_row (T := 27) (E := 9) (ty := 27) (m := outs.length - m) (news := (outs.drop m).map .string) (xo := (if c = m then some (⟨bo, oo, none⟩ : Addr) else some (⟨bo, oo + m, none⟩ : Addr))) (cx := c - m) Tryz.underlying27 info_string (by decide) G2.out L2.out.size (by have := HLM.out; have := HOB.out; omega) (HRX.out.1.below L2.out) HRX.out.2 (by rw [List.length_map, List.length_drop, Nat.mul_one]) (by rw [List.all_map]; exact List.all_eq_true.2 fun _ _ => rfl)
       rw [show m + 1 + (outs.length - m) = outs.length + 1 by have := HLM.out; omega] at hr3 g3
       have HR3 := hid hr3
       have G3 := hid g3
       have L3 := hid (L2.out.trans b3)
       clear hr3 g3 b3
       go_wp2_with (at_builtin; refine wp_run_append' rfl _ _ 27 rfl rfl rfl HR3.out ?_)
       go_roundw
       case rel => exact ⟨j + 1, a3, c3, insR outs s, HLJ.out, by rw [insR_len], by go_num, ins_next HS3.out HAM.out HNX.out G3.out L3.out⟩
       case measure => have := HLJ.out; simp only [intOf]; omega
     ·have hg : (0 : Int) < (m : Int) := by omega
      have hgN : 0 < m := by omega
      have hq1 : (m : Int) - 1 = (q : Int) := by omega
      have hqlt : (q : Int) < (outs.length : Int) := by have := HLM.out; omega
      have kq := HKQ.out q (by have := HLM.out; omega) _ HM.out.2
      clear h0
      go_upto_region 14 with fail
      go_upto_region 15 with (at_builtin; refine wp_run_append' rfl _ _ 27 rfl rfl rfl HR1.out ?_)
      go_upto_region 16 with (at_builtin; refine wp_append_own rfl 27 9 1 Tryz.underlying27 info_string (by decide) _ _ rfl G1.out L1.out.size HM2.out rfl rfl rfl rfl ?_; intro a2 c2 w5 g2 b2 k2'; have G2 := hid g2; have L2 := hid (L1.out.trans b2); clear g2 b2 k2')
      obtain ⟨a3, c3, w6, hr3, g3, b3⟩ := append_row (T := 27) (E := 9) (ty := 27) (m := outs.length - m) (news := (outs.drop m).map .string) (xo := (if c = m then some (⟨bo, oo, none⟩ : Addr) else some (⟨bo, oo + m, none⟩ : Addr))) (cx := c - m) Tryz.underlying27 info_string (by decide) G2.out L2.out.size (by have := HLM.out; have := HOB.out; omega) (HRX.out.1.below L2.out) HRX.out.2 (by rw [List.length_map, List.length_drop, Nat.mul_one]) (by rw [List.all_map]; exact List.all_eq_true.2 fun _ _ => rfl)
      rw [show m + 1 + (outs.length - m) = outs.length + 1 by have := HLM.out; omega] at hr3 g3
      have HR3 := hid hr3
      have G3 := hid g3
      have L3 := hid (L2.out.trans b3)
      clear hr3 g3 b3
      go_wp2_with (at_builtin; refine wp_run_append' rfl _ _ 27 rfl rfl rfl HR3.out ?_)
      go_roundw
      case rel => exact ⟨j + 1, a3, c3, insR outs s, HLJ.out, by rw [insR_len], by go_num, ins_next HS3.out HAM.out HNX.out G3.out L3.out⟩
      case measure => have := HLJ.out; simp only [intOf]; omega
end Go.Proofs.YtgimdkgjfenafaaGreatDoor
