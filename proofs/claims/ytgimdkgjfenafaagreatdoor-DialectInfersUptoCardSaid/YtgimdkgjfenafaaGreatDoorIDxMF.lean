import Derived.Test.YtgimdkgjfenafaaGreatDoorG31
import Derived.Test.YtgimdkgjfenafaaGreatDoorG14
import Derived.Test.YtgimdkgjfenafaaGreatDoorG30
import Derived.Test.YtgimdkgjfenafaaGreatDoorMDxMA
import Derived.Test.YtgimdkgjfenafaaGreatDoorG41
import Derived.Test.YtgimdkgjfenafaaGreatDoorG45
import Derived.Test.YtgimdkgjfenafaaGreatDoorG40
import Derived.Test.YtgimdkgjfenafaaGreatDoorG39
namespace Go.Proofs.YtgimdkgjfenafaaGreatDoor
open Go.RowKit
open Lib (hid)
structure SmallL (l : List ByteArray) : Prop where
 len : l.length ≤ 1048576
 each : ∀ s ∈ l, s.size ≤ 1048576
theorem SmallL.sizes {l : List ByteArray} (h : SmallL l) : ∀ s ∈ l, s.size ≤ 9223372036854775807 := fun s hs => by have := h.each s hs; omega
set_option maxHeartbeats 4000000 in
set_option maxRecDepth 100000 in
theorem LTypes_any (la : Option Addr) (l : List ByteArray) (lc : Nat) (hl : l.length ≤ 1048576) (hz : ∀ t ∈ l, t.size ≤ 9223372036854775807) (w : World) (hL : StrsAt w la l) :
  Calls Tryz.prog 25 #[.slice la l.length lc] w fun e w' => e = .returned (.bool (l.all isT)) ∧ Below w.heap.size w w' := by
 have HL := hid hL
 have HZ := hid hz
 have hli : (l.length : Int) ≤ 1048576 := by omega
 clear hL hz hl
 go_enter Tryz.func25, Tryz.ntmps25
 go_wp2_with fail
 go_loopw [3] (fun iv wr => ∃ m : Nat, m ≤ l.length ∧ iv = .int .i64 m ∧ Hid (Below w.heap.size w wr ∧ ∀ (j : Nat) (t : ByteArray), j < m → l[j]? = some t → isT t = true)) (fun iv _ => l.length - (intOf iv).toNat)
 case atStart => exact ⟨0, Nat.zero_le _, rfl, Below.refl _ _, fun j t h => absurd h (Nat.not_lt_zero _)⟩
 case round =>
  obtain ⟨m, hmm, rfl, HB⟩ := hrel
  by_cases hlt : m < l.length
  rotate_left
  ·have hge : ¬ (m : Int) < (l.length : Int) := by omega
   have HX := hid (show l.all isT = true from List.all_eq_true.2 fun t ht => by
    obtain ⟨j, hj⟩ := List.getElem?_of_mem ht
    exact HB.out.2 j t (by have := (List.getElem?_eq_some_iff.1 hj).1; omega) hj)
   clear hlt hmm
   go_wp2_with fail
   go_ret
   exact ⟨by rw [HX.out]; rfl, HB.out.1⟩
  have hjs := List.getElem?_eq_getElem hlt
  have hts := HZ.out _ (List.getElem_mem hlt)
  generalize l[m]'hlt = t at hjs hts
  obtain ⟨a, rfl⟩ : ∃ a, la = some a := by
   rcases HL.out with h0 | ⟨a, h, _⟩
   ·rw [h0] at hlt; exact absurd hlt (Nat.not_lt_zero _)
   ·exact ⟨a, h⟩
  have hcl := strs_at (HL.out.below HB.out.1) hjs
  have HJ := hid hjs
  have HLT := hid hlt
  have HTS := hid hts
  have hlti : (m : Int) < (l.length : Int) := by omega
  clear hjs hts hlt hmm
  go_wp2_with fail
  refine (Is_ref t HTS.out wr).mono ?_
  rintro e w2 ⟨rfl, hb⟩
  have HB2 := hid (HB.out.1.trans (hb.mono HB.out.1.size))
  clear hb hcl
  cases his : (readR t.data.toList).isSome
  ·have HX := hid (show l.all isT = false from List.all_eq_false.2 ⟨t, List.mem_of_getElem? HJ.out, by show ¬ (readR t.data.toList).isSome = true; rw [his]; decide⟩)
   clear his
   go_wp2_with fail
   go_ret
   exact ⟨by rw [HX.out]; rfl, HB2.out⟩
  ·have HX := hid (show isT t = true from his)
   clear his
   go_wp2_with fail
   go_roundw
   case rel => exact ⟨m + 1, HLT.out, by go_num, HB2.out, fun j y hj hy => by
     rcases Nat.lt_or_ge j m with h | h
     ·exact HB.out.2 j y h hy
     ·obtain rfl : j = m := by omega
      rw [HJ.out] at hy
      cases hy
      exact HX.out⟩
   case measure => have := HLT.out; simp only [intOf]; omega
theorem one_of {r : Rule} (h1 : r ≠ .bad) (h2 : r.inOnly = false) (h3 : r.many = false) : r.one = true := by
 cases r with
 | bad => exact absurd rfl h1
 | bind v c => cases h2
 | index v => cases h2
 | anys => cases h3
 | nums => cases h3
 | _ => rfl
theorem many_7 (r : Rule) : r.many = (r.sortR == 7 || r.sortR == 8) := by cases r <;> rfl
structure RInS (ss : List ByteArray) (w9 : World) (F : Bnd) (j : Nat) (vo : Option Addr) (cp : Nat) (wr : World) : Prop where
 below : Below w9.heap.size w9 wr
 own : wr.ownsRow w9.heap.size 9 1 (.slice vo j cp) j ((((ss.map ruleOf).take j).map (onlyL F)).map Value.string)
 so : ∀ (k : Nat) (r : Rule), k < j → (ss.map ruleOf)[k]? = some r → r.many = false
set_option maxHeartbeats 16000000 in
set_option maxRecDepth 100000 in
theorem RInfer_any (x : DEl) (hs : DefSmall x.d) (hr : signedL x.d = true) (ia : Option Addr) (ins : List ByteArray) (ic : Nat) (h1 : ins.length ≤ 1048576) (z1 : ∀ s ∈ ins, s.size ≤ 9223372036854775807) (t1 : ∀ s ∈ ins, isT s = true) (w : World) (hd : DefOK w x) (hI : StrsAt w ia ins) :
  Calls Tryz.prog 28 #[x.val, .slice ia ins.length ic] w (InferP (inferR x.d ins) w) := by
 obtain ⟨O, hO⟩ : ∃ O, O = Obj.cells #[.string x.d.name, .slice x.io x.d.ins.length x.ic, .slice x.oo x.d.outs.length x.oc, .slice x.no x.d.needs.length x.nc, .int .i64 x.d.regions, .int .i64 x.d.succs, .slice x.ko x.d.traits.length x.kc] 41 := ⟨_, rfl⟩
 have T0 := hid (heap_alloc_new w O)
 have B1 := hid (new_below w O)
 obtain ⟨hok1, ⟨B, hok2⟩, hno⟩ := signed_ok hr
 have HL10 := hid (rightD_long hr)
 have HS1 := hid (hd.ins.below B1.out)
 have HS2 := hid (hd.outs.below B1.out)
 have HI := hid (hI.below B1.out)
 have HZ1 := hid (show ∀ s ∈ x.d.ins, s.size ≤ 9223372036854775807 from fun s h => by have := hs.zi s h; omega)
 have HZ2 := hid (show ∀ s ∈ x.d.outs, s.size ≤ 9223372036854775807 from fun s h => by have := hs.zo s h; omega)
 have HNA := hid (ok_nobad _ _ hok1)
 have HNO := hid (ok_nobad _ _ hok2)
 have HIO := hid (show ∀ r ∈ x.d.outs.map ruleOf, r.inOnly = false from fun r hr => by have := List.any_eq_false.1 hno r hr; simpa using this)
 have HC1 := hid (num_cnt ins _ _ 0 noB hok1)
 have HN1 := hid h1
 have HT1 := hid t1
 have HY1 := hid z1
 have hmm := @run_makeMap Tryz.prog
 clear hok1 hok2 hno hd hI hs hr h1 t1 z1
 have hoi : (x.d.outs.length : Int) ≤ 10 := by have := HL10.out.2; omega
 obtain ⟨res, hres⟩ : ∃ res, res = inferR x.d ins := ⟨_, rfl⟩
 rw [← hres]
 have HX := hid hres
 unfold inferR at HX
 clear hres
 unfold DEl.val
 go_enter Tryz.func28, Tryz.ntmps28
 go_upto_region 1 with fail
 rw [← hO]
 generalize w.alloc O = W1 at T0 B1 HS1 HS2 HI ⊢
 subst hO
 generalize hD : w.heap.size = D at T0 ⊢
 have HDE := hid hD
 clear hD
 have HM0 := hid (MapS.made 5 9 .u8 W1)
 have N2 := hid (new_below W1 (.map #[] 0))
 go_upto_region 2 with fail
 generalize W1.alloc (.map #[] 0) = W2 at HM0 N2 ⊢
 generalize hmb : W1.heap.size = mb at HM0 ⊢
 have HMB := hid (show w.heap.size ≤ mb by rw [← hmb]; exact B1.out.size)
 have HDM := hid (show D ≠ mb by have := lt_of_block T0.out; omega)
 clear hmb
 have B2 := hid (B1.out.trans (N2.out.mono B1.out.size))
 have T2 := hid ((N2.out.block _ (lt_of_block T0.out)).trans T0.out)
 replace HS1 := hid (HS1.out.below N2.out)
 replace HS2 := hid (HS2.out.below N2.out)
 replace HI := hid (HI.out.below N2.out)
 obtain ⟨ob, ho1, ho2⟩ := MapS.obj HM0.out
 have HOB := hid (And.intro ho1 ho2)
 clear N2 T0 B1 ho1 ho2
 obtain ⟨c0, c1, c2, c3, c4, c5, c6, cf⟩ := dcells7 T2.out
 go_wp2_with fail
 refine (RNumbers_any x.io x.d.ins x.ic HL10.out.1 HZ1.out ia ins ic HN1.out HY1.out mb 0 (by decide) noB noB_fine W2 HS1.out HI.out HM0.out).mono ?_
 rintro e w3 ⟨hg, rfl, hm, hf⟩
 have T3 := hid ((hg.block D (lt_of_block T2.out) (fun e => HDM.out (Option.some.inj e))).trans T2.out)
 have B3 := hid (beyond B2.out HMB.out hg)
 have K3 := hid (strs_grown HS1.out hg HOB.out.1 HOB.out.2)
 have K4 := hid (strs_grown HS2.out hg HOB.out.1 HOB.out.2)
 have K5 := hid (strs_grown HI.out hg HOB.out.1 HOB.out.2)
 have HM3 := hid hm
 have HF3 := hid hf
 clear hg hm hf HS1 HS2 HI HM0 HOB T2 c0 c1 c2 c3 c4 c5 c6 cf
 generalize hq1 : (numL ins (x.d.ins.map ruleOf) 0 noB).1 = F at HM3 HF3 HX HC1
 generalize hq2 : (numL ins (x.d.ins.map ruleOf) 0 noB).2 = a at HX HC1 ⊢
 clear hq1 hq2
 obtain ⟨c0, c1, c2, c3, c4, c5, c6, cf⟩ := dcells7 T3.out
 cases a
 ·have HR := hid (show res = ([], 61) from HX.out)
  go_wp2_with fail
  go_ret2
  exact infer_no HR.out (HDE.out ▸ B3.out)
 go_wp2_with fail
 refine (RKept_any x.io x.d.ins x.ic HL10.out.1 HZ1.out HNA.out ia ins ic HN1.out HY1.out HT1.out mb _ F HF3.out HC1.out.symm w3 K3.out K5.out HM3.out).mono ?_
 rintro e w5 ⟨rfl, hb⟩
 have T5 := hid ((hb.block _ (lt_of_block T3.out)).trans T3.out)
 have B5 := hid (B3.out.trans (hb.mono B3.out.size))
 have HS5 := hid (K4.out.below hb)
 have HM5 := hid (MapS.below HM3.out hb)
 clear hb K3 K4 K5 HM3 T3 B3 c0 c1 c2 c3 c4 c5 c6 cf
 generalize keptL F ins (x.d.ins.map ruleOf) 0 = ka at HX ⊢
 obtain ⟨c0, c1, c2, c3, c4, c5, c6, cf⟩ := dcells7 T5.out
 cases ka
 ·have HR := hid (show res = ([], 62) from HX.out)
  go_wp2_with fail
  go_ret2
  exact infer_no HR.out (HDE.out ▸ B5.out)
 have HMF := hid (show res = if (x.d.outs.map ruleOf).any Rule.many then ([], 1) else ((x.d.outs.map ruleOf).map (onlyL F), 0) from HX.out)
 clear HX
 go_wp2_with fail
 clear c0 c1 c2 c3 c4 c5 c6 cf
 have HRL := hid (show (x.d.outs.map ruleOf).length = x.d.outs.length from List.length_map _)
 go_loopw [7, 8] (fun ov iv wr => ∃ (j : Nat) (vo : Option Addr) (cp : Nat), j ≤ x.d.outs.length ∧ ov = .slice vo j cp ∧ iv = .int .i64 j ∧ Hid (RInS x.d.outs w5 F j vo cp wr)) (fun _ iv _ => x.d.outs.length - (intOf iv).toNat)
 case atStart => exact ⟨0, none, 0, Nat.zero_le _, rfl, rfl, Below.refl _ _, World.ownsRow_nil _ _ _ _, fun k r h => absurd h (Nat.not_lt_zero _)⟩
 case round =>
  obtain ⟨j, vo, cp, hj, rfl, rfl, HC⟩ := hrel
  have HBR := hid (B5.out.trans (HC.out.below.mono B5.out.size))
  have T6 := hid ((HC.out.below.block _ (lt_of_block T5.out)).trans T5.out)
  obtain ⟨c0, c1, c2, c3, c4, c5, c6, cf⟩ := dcells7 T6.out
  by_cases hlt : j < x.d.outs.length
  rotate_left
  ·obtain rfl : j = x.d.outs.length := by omega
   have HA := hid (show (x.d.outs.map ruleOf).any Rule.many = false from List.any_eq_false.2 fun r hr => by
    obtain ⟨k, hk⟩ := List.getElem?_of_mem hr
    rw [HC.out.so k r (by have := (List.getElem?_eq_some_iff.1 hk).1; have := HRL.out; omega) hk]
    decide)
   have HR := hid (show res = ((x.d.outs.map ruleOf).map (onlyL F), 0) by rw [HMF.out, HA.out]; rfl)
   clear hlt hj
   go_wp2_with fail
   go_ret2
   have h1 := row_own (own_above HC.out.own)
   rw [List.take_of_length_le (by rw [HRL.out]; exact Nat.le_refl _)] at h1
   rw [HR.out]
   exact ⟨HDE.out ▸ HBR.out, vo, cp, by rw [List.length_map, HRL.out]; rfl, strs_row (by rw [List.length_map, HRL.out]; exact RowIs.keeps h1.1 (above_above (by have := B5.out.size; have := HDE.out; omega))), by rw [List.length_map, HRL.out]; exact h1.2⟩
  obtain ⟨ad, had⟩ : ∃ ad, x.oo = some ad := by
   rcases HS5.out with h0 | ⟨ad, h, _⟩
   ·rw [h0] at hlt; exact absurd hlt (Nat.not_lt_zero _)
   ·exact ⟨ad, h⟩
  have hz := List.getElem?_eq_getElem hlt
  have hzs := HZ2.out _ (List.getElem_mem hlt)
  generalize x.d.outs[j]'hlt = z at hz hzs
  have hcm := strs_at (had ▸ HS5.out.below HC.out.below) hz
  have HG := hid (show (x.d.outs.map ruleOf)[j]? = some (ruleOf z) by rw [List.getElem?_map, hz]; rfl)
  have HZS := hid hzs
  have HLT := hid hlt
  have hlti : (j : Int) < (x.d.outs.length : Int) := by omega
  rw [had] at c2
  have HAD := hid had
  clear hz hzs hlt hj had
  go_wp2_with fail
  refine (RReadRule_any z HZS.out wr).mono ?_
  rintro e w2 ⟨rfl, hb⟩
  generalize ruleOf z = r at HG ⊢
  have HN2 := hid (HC.out.below.trans (hb.mono HC.out.below.size))
  have HO2 := hid (ownsRow_below HC.out.own hb)
  have HSO := hid HC.out.so
  clear hb hcm HC T6 c0 c1 c2 c3 c4 c5 c6 cf HBR
  obtain ⟨O, hO⟩ : ∃ O, O = Obj.cells #[.int .i64 r.sortR, .int .u8 (r.v.toNat : Int), .string r.whatR] 119 := ⟨_, rfl⟩
  have HTR := hid (heap_alloc_new w2 O)
  have HNB := hid (new_below w2 O)
  go_upto_region 11 with fail
  rw [← hO]
  generalize w2.alloc O = W3 at HTR HNB ⊢
  subst hO
  generalize w2.heap.size = E at HTR ⊢
  have HN3 := hid (HN2.out.trans (HNB.out.mono HN2.out.size))
  have HB3 := hid (B5.out.trans (HN3.out.mono B5.out.size))
  have HM3 := hid (MapS.below HM5.out HN3.out)
  have HO3 := hid (ownsRow_below HO2.out HNB.out)
  clear HN2 HO2 HNB
  have HMS := hid (many_7 r)
  have HCI0 := hid (fun h => RStands_any r h mb _ F HF3.out W3 HM3.out)
  generalize hp : r.sortR = p at HTR HMS HCI0
  generalize hv : (r.v.toNat : Int) = v at HTR HCI0
  generalize htx : r.whatR = tx at HTR HCI0
  clear hp hv htx
  obtain ⟨c0, c1, c2, cf⟩ := cells3 HTR.out
  have HR1 := hid (fun h : r.many = true => show res = ([], 1) by rw [HMF.out, show (x.d.outs.map ruleOf).any Rule.many = true from List.any_eq_true.2 ⟨r, List.mem_of_getElem? HG.out, h⟩]; rfl)
  cases h7 : (p == 7)
  rotate_left
  ·have HR := hid (HR1.out (by rw [HMS.out, h7]; rfl))
   go_wp2_with fail
   go_ret2
   exact infer_no HR.out (HDE.out ▸ HB3.out)
  cases h8 : (p == 8)
  rotate_left
  ·have HR := hid (HR1.out (by rw [HMS.out, h7, h8]; rfl))
   go_wp2_with fail
   go_ret2
   exact infer_no HR.out (HDE.out ▸ HB3.out)
  have HNM := hid (show r.many = false by rw [HMS.out, h7, h8]; rfl)
  have HCI := hid (HCI0.out (one_of (HNO.out r (List.mem_of_getElem? HG.out)) (HIO.out r (List.mem_of_getElem? HG.out)) HNM.out))
  obtain ⟨z2, hz⟩ : ∃ z2, z2 = onlyL F r := ⟨_, rfl⟩
  rw [← hz] at HCI
  have HZE := hid hz
  clear hz HCI0
  go_wp2_with fail
  refine HCI.out.mono ?_
  rintro e w4' ⟨rfl, hb⟩
  have HN4 := hid (HN3.out.trans (hb.mono HN3.out.size))
  have HOW := hid (ownsRow_below HO3.out hb)
  have HBZ := hid HN4.out.size
  have HNN := hid (show j ≤ 2000000 by have := HLT.out; have := HL10.out.2; omega)
  clear hb c0 c1 c2 cf HCI h7 h8
  go_wp2_with (at_builtin; refine wp_append_own rfl 27 9 1 Tryz.underlying27 info_string (by decide) _ _ rfl HOW.out HBZ.out HNN.out rfl rfl rfl rfl ?_; intro ao5 c5 w5' hown hbel hkp; have HO5 := hid hown; have HB6 := hid hbel; clear hown hbel hkp)
  go_roundw
  case rel => exact ⟨j + 1, ao5, c5, HLT.out, rfl, by go_num, HN4.out.trans HB6.out, by
    have e : (((x.d.outs.map ruleOf).take (j + 1)).map (onlyL F)).map Value.string = (((x.d.outs.map ruleOf).take j).map (onlyL F)).map Value.string ++ [.string z2] := by rw [List.take_add_one, HG.out, HZE.out]; simp
    rw [e]
    exact HO5.out, fun k y hk hy => by
     rcases Nat.lt_or_ge k j with h | h
     ·exact HSO.out k y h hy
     ·obtain rfl : k = j := by omega
      rw [HG.out] at hy
      cases hy
      exact HNM.out⟩
  case measure => have := HLT.out; simp only [intOf]; omega
theorem inferE_bad {d : DefD} {i : List ByteArray} (h : rightD d = false) : inferE d i = ([], 50) := by unfold inferE; rw [h]; rfl
theorem inferE_ty {d : DefD} {i : List ByteArray} (h : rightD d = true) (h2 : i.all isT = false) : inferE d i = ([], 10) := by unfold inferE; rw [h, h2]; rfl
theorem inferE_yes {d : DefD} {i : List ByteArray} (h : rightD d = true) (h2 : i.all isT = true) : inferE d i = inferR d i := by unfold inferE; rw [h, h2, infer_ways (rightD_signed h)]; rfl
theorem infer_len {d : DefD} (h : d.outs.length ≤ 1048576) {i : List ByteArray} : (inferE d i).1.length ≤ 9223372036854775807 := by
 unfold inferE inferL
 repeat' split
 all_goals first | exact Nat.zero_le _ | (simp only [List.length_map]; omega)
set_option maxHeartbeats 16000000 in
set_option maxRecDepth 100000 in
theorem DialectInfers_any (x : DEl) (hs : DefSmall x.d) (ia : Option Addr) (ins : List ByteArray) (ic : Nat) (h1 : SmallL ins) (w : World) (hd : DefOK w x) (hI : StrsAt w ia ins) (hE : Env w) :
  Calls Tryz.prog 6 #[x.val, .slice ia ins.length ic] w fun e w' => e = .returned (.bool true) ∧ Below w.heap.size w w' := by
 obtain ⟨W1, hW1⟩ : ∃ W1, W1 = w.alloc (.cells #[.string x.d.name, .slice x.io x.d.ins.length x.ic, .slice x.oo x.d.outs.length x.oc, .slice x.no x.d.needs.length x.nc, .int .i64 x.d.regions, .int .i64 x.d.succs, .slice x.ko x.d.traits.length x.kc] 41) := ⟨_, rfl⟩
 have T0 : Hid (W1.heap[w.heap.size]? = some (.cells #[.string x.d.name, .slice x.io x.d.ins.length x.ic, .slice x.oo x.d.outs.length x.oc, .slice x.no x.d.needs.length x.nc, .int .i64 x.d.regions, .int .i64 x.d.succs, .slice x.ko x.d.traits.length x.kc] 41 (0, 0))) := by show W1.heap[_]? = _; rw [hW1]; exact heap_alloc_new _ _
 have B1 : Hid (Below w.heap.size w W1) := by show Below _ _ _; rw [hW1]; exact new_below _ _
 have HD := hid (hd.below B1.out)
 have HS := hid hs
 have HE := hid (hE.below B1.out)
 have HI := hid (hI.below B1.out)
 have H1 := hid h1
 have HLN := hid (infer_len hs.lo (i := ins))
 have HLD := hid (LDef_any x hs W1 HD.out)
 clear hd hs hE hI h1
 unfold DEl.val at HLD ⊢
 go_enter Tryz.func6, Tryz.ntmps6
 go_upto_region 1 with fail
 rw [← hW1]
 clear hW1
 generalize hD : w.heap.size = D at T0 ⊢
 have HDE := hid hD
 clear hD
 obtain ⟨c0, c1, c2, c3, c4, c5, c6, cf⟩ := dcells7 T0.out
 go_wp2_with fail
 refine HLD.out.mono ?_
 rintro e w4 ⟨hb, y, rfl, hyd, hyo⟩
 have HT4 := hid ((hb.block _ (lt_of_block T0.out)).trans T0.out)
 have B4 := hid hb
 have HMA := hid (Infer_any y (by rw [hyd]; exact HS.out.fit) ia ins ic H1.out.len (fun s h => by have := H1.out.each s h; unfold maxLen; omega) w4 hyo (HI.out.below hb) (HE.out.below hb))
 rw [hyd] at HMA
 clear hb hyd hyo HLD T0 c0 c1 c2 c3 c4 c5 c6 cf
 obtain ⟨hl, hz, hhe⟩ : ∃ hl hz, inferE x.d ins = (hl, hz) := ⟨_, _, rfl⟩
 rw [hhe] at HMA HLN
 replace HLN := hid (show hl.length ≤ 9223372036854775807 from HLN.out)
 have HHE := hid hhe
 clear hhe
 go_wp2_with fail
 refine HMA.out.mono ?_
 rintro e w5 ⟨hb, ao, lc, rfl, hst, -⟩
 have HST := hid (show StrsAt w5 ao hl from strs_keeps hst above_to)
 have HT5 := hid ((hb.block _ (lt_of_block HT4.out)).trans HT4.out)
 have B5 := hid (B4.out.trans (hb.mono B4.out.size))
 clear hb HMA HT4 B4 hst
 obtain ⟨c0, c1, c2, c3, c4, c5, c6, cf⟩ := dcells7 HT5.out
 have HRD := hid (RRightDef_any x HS.out w5 (HD.out.below B5.out))
 unfold DEl.val at HRD
 go_wp2_with fail
 refine HRD.out.mono ?_
 rintro e w6 ⟨rfl, hb⟩
 have HT6 := hid ((hb.block _ (lt_of_block HT5.out)).trans HT5.out)
 have B6 := hid (B5.out.trans (hb.mono B5.out.size))
 replace HST := hid (HST.out.below hb)
 clear hb HRD HT5 B5 c0 c1 c2 c3 c4 c5 c6 cf
 go_upto_if 18 with fail
 go_cut [7, 8] (fun wv vv wc => ∃ (ao2 : Option Addr) (lc2 : Nat), wv = .int .i64 hz ∧ vv = .slice ao2 hl.length lc2 ∧ Hid (Below W1.heap.size W1 wc ∧ StrsAt wc ao hl ∧ StrsAt wc ao2 hl))
 case first =>
  cases hr : rightD x.d
  ·have hq := HHE.out.symm.trans (inferE_bad hr)
   injection hq with hq1 hq2
   subst hq1 hq2
   clear hr HHE
   go_wp2_with fail
   go_meet
   exact ⟨none, 0, rfl, rfl, B6.out, HST.out, .inl rfl⟩
  have HR := hid hr
  clear hr
  go_wp2_with fail
  refine (LTypes_any ia ins ic H1.out.len H1.out.sizes w6 (HI.out.below B6.out)).mono ?_
  rintro e w7 ⟨rfl, hb⟩
  have HT7 := hid ((hb.block _ (lt_of_block HT6.out)).trans HT6.out)
  have B7 := hid (B6.out.trans (hb.mono B6.out.size))
  replace HST := hid (HST.out.below hb)
  clear hb HT6 B6
  cases ha : ins.all isT
  ·have hq := HHE.out.symm.trans (inferE_ty HR.out ha)
   injection hq with hq1 hq2
   subst hq1 hq2
   clear ha HHE
   go_wp2_with fail
   go_meet
   exact ⟨none, 0, rfl, rfl, B7.out, HST.out, .inl rfl⟩
  have HA := hid ha
  clear ha
  obtain ⟨c0, c1, c2, c3, c4, c5, c6, cf⟩ := dcells7 HT7.out
  have HRM := hid (RInfer_any x HS.out (rightD_signed HR.out) ia ins ic H1.out.len H1.out.sizes (List.all_eq_true.1 HA.out) w7 (HD.out.below B7.out) (HI.out.below B7.out))
  rw [← inferE_yes HR.out HA.out, HHE.out] at HRM
  unfold DEl.val at HRM
  go_wp2_with fail
  refine HRM.out.mono ?_
  rintro e w9 ⟨hb, ao2, lc2, rfl, hst, -⟩
  have B9 := hid (B7.out.trans (hb.mono B7.out.size))
  replace HST := hid (HST.out.below hb)
  have HST2 := hid (show StrsAt w9 ao2 hl from strs_keeps hst above_to)
  clear hb HRM HT7 B7 c0 c1 c2 c3 c4 c5 c6 cf HHE hst
  go_wp2_with fail
  go_meet
  exact ⟨ao2, lc2, rfl, rfl, B9.out, HST.out, HST2.out⟩
 case rest =>
 obtain ⟨ao2, lc2, rfl, rfl, HC⟩ := hcut
 have hq : (hz == hz) = true := beq_self_eq_true _
 clear HST HT6 B6 HHE
 go_wp2_with fail
 refine (same_strs ao ao2 hl lc lc2 HLN.out wc HC.out.2.1 HC.out.2.2).mono ?_
 rintro e w10 ⟨rfl, hb⟩
 have B10 := hid (HC.out.1.trans (hb.mono HC.out.1.size))
 clear hb
 go_wp2_with fail
 refine (awake5_any _ (HE.out.below B10.out)).mono ?_
 rintro e w11 ⟨rfl, hb⟩
 have B11 := hid (B10.out.trans (hb.mono B10.out.size))
 clear hb
 go_wp2_with fail
 go_ret
 exact ⟨rfl, HDE.out ▸ (B1.out.trans (B11.out.mono B1.out.size))⟩
end Go.Proofs.YtgimdkgjfenafaaGreatDoor
namespace Go.Proofs.YtgimdkgjfenafaaGreatDoor
open Go.ChangeShapes Go.WideShapes Go.ChangeAt Go.RowKit
set_option maxRecDepth 100000 in
theorem open_strsB {H : Type} {enc : TypeId × Value → H} {W : World} {base : Nat} {v : Value} {d : DataW H} {p : List MemPlace} (hval : Value.okWide Tryz.prog W .any base 27 v) (h : DataW.Trod enc Tryz.prog W 0 (fun _ => true) true 27 v d p) :
  ∃ (ao : Option Addr) (ss : List ByteArray) (c : Nat), v = .slice ao ss.length c ∧ ss.length ≤ c ∧ StrsAt W ao ss ∧ (Rows.uptoBulk d ≤ 1048576 → SmallL ss) := by
 obtain ⟨a0, n, c, rfl⟩ := Go.WideShapes.okWide_slice Tryz.underlying27 hval
 obtain ⟨fuel, h⟩ := h
 obtain ⟨ao, ss, c, e, h1, h2, h3⟩ := field_strsB (v := .slice a0 n c) h
 exact ⟨ao, ss, c, e, h1, h2, fun hb => ⟨(h3 hb).1, (h3 hb).2⟩⟩
end Go.Proofs.YtgimdkgjfenafaaGreatDoor
