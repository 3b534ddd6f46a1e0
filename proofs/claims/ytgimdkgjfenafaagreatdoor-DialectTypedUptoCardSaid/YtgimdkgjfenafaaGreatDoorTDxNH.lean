import Derived.Test.YtgimdkgjfenafaaGreatDoorTJDxLB
import Derived.Test.YtgimdkgjfenafaaGreatDoorTDxND
import Derived.Test.YtgimdkgjfenafaaGreatDoorG32
import Derived.Test.YtgimdkgjfenafaaGreatDoorTDxLF
namespace Go.Proofs.YtgimdkgjfenafaaGreatDoor
open Go.RowKit
open Lib (hid)
theorem infer_outs {d : DefD} {ins : List ByteArray} (h : d.outs.length ≤ 1000000) : (inferE d ins).1.length ≤ 1048576 := by
 unfold inferE inferL
 repeat' split
 all_goals first | exact Nat.zero_le _ | (simp only [List.length_map]; omega)
set_option maxHeartbeats 32000000 in
set_option maxRecDepth 100000 in
theorem DialectTyped_any (ao : Option Addr) (xs : List XEl) (c0 : Nat) (io : Option Addr) (ins : List ByteArray) (ic : Nat) (n : Int) (hs : ∀ x ∈ xs, SmallX x) (hn : ∀ x ∈ xs, NameSmall x.d) (hl : xs.length ≤ 1048576) (h1 : SmallL ins) (w : World) (hd : DiasAt w ao xs) (hi : StrsAt w io ins) (hE : Env w) :
  Calls Tryz.prog 10 #[.slice ao xs.length c0, .slice io ins.length ic, .int .i64 n] w fun e w' => e = .returned (.bool true) ∧ Below w.heap.size w w' := by
 have HLP := hid (fun (X : World) (h : Below w.heap.size w X) => LProg_any ao xs c0 hs hl X (hd.below h))
 have HFT := hid (fun (ys : List XEl) (h : ys.map XEl.d = xs.map XEl.d) => And.intro (fitsX_of hs h) (namesX_of hn h))
 have HSF := hid (show ∀ x ∈ xs.map XEl.d, ∀ d ∈ x.ops, DefFit d from fun x hx d hd => by
  obtain ⟨z, hz, rfl⟩ := List.mem_map.1 hx
  exact (smallX_fit' (hs z hz)).ops d hd)
 have HNS := hid (show ∀ x ∈ xs.map XEl.d, NameSmall x from fun x hx => by
  obtain ⟨z, hz, rfl⟩ := List.mem_map.1 hx
  exact hn z hz)
 have HL := hid hl
 have HE := hid hE
 have HI := hid hi
 have H1 := hid h1
 clear hs hn hl hd hE hi h1
 obtain ⟨ds, hds⟩ : ∃ ds, ds = xs.map XEl.d := ⟨_, rfl⟩
 rw [← hds] at HSF HNS
 have HDS := hid hds
 clear hds
 go_enter Tryz.func10, Tryz.ntmps10
 go_wp2_with fail
 refine (Core_any w).mono ?_
 rintro e w1 ⟨cs, co, cc, rfl, hcd, hcs, hcc, hb⟩
 have B1 := hid hb
 have HCS := hid (hcs.keeps above_to)
 have HCD := hid (show ∀ x ∈ cs, x.d ∈ coreD from fun x hx => hcd ▸ List.mem_map.2 ⟨x, hx, rfl⟩)
 have hc7 : cs.length = 7 := by have := congrArg List.length hcd; rw [List.length_map, core_few.1] at this; exact this
 have HC7 := hid hc7
 have HCC := hid hcc
 have hc7i : (cs.length : Int) = 7 := by omega
 clear hb hcs hcd hcc hc7
 go_wp2_with fail
 go_loopw [8] (fun iv wr => ∃ i : Nat, i ≤ 7 ∧ iv = .int .i64 i ∧ Hid (Below w1.heap.size w1 wr)) (fun iv _ => 7 - (intOf iv).toNat)
 case atStart => exact ⟨0, Nat.zero_le _, rfl, Below.refl _ _⟩
 case round =>
  obtain ⟨i, hi, rfl, HM⟩ := hrel
  by_cases hlt : i < 7
  ·have hii : (i : Int) < 7 := by omega
   have hjs := List.getElem?_eq_getElem (show i < cs.length by have := HC7.out; omega)
   obtain ⟨bk, o, e1, kk⟩ := RowIs.at xel_len (HCS.out.1.below HM.out) hjs
   have hok := HCS.out.2 _ (List.getElem_mem (show i < cs.length by have := HC7.out; omega))
   have hcm := HCD.out _ (List.getElem_mem (show i < cs.length by have := HC7.out; omega))
   obtain rfl : co = _ := e1
   generalize cs[i]'_ = x at hjs kk hok hcm
   have hcc : (i : Int) + 1 ≤ (cc : Int) := by have := HCC.out; have := HC7.out; omega
   have HCK := hid (Check_any (some ⟨bk, o + i * 3, none⟩) [x] 1 (Nat.le_of_ble_eq_true rfl) (fun z hz => by
    obtain rfl := List.mem_singleton.1 hz
    exact ⟨fun d hd => core_fit _ hcm d hd, (core_lens _ hcm).1, (core_lens _ hcm).2⟩) _ ⟨.inr ⟨bk, o + i * 3, rfl, fun j v hj => by
     have hj3 : (XEl.cells x)[j]? = some v := by simpa using hj
     exact kk j v hj3⟩, fun z hz => by
     obtain rfl := List.mem_singleton.1 hz
     exact hok.below HM.out⟩ (HE.out.below (B1.out.trans (HM.out.mono B1.out.size))))
   rw [show [x].map XEl.d = [x.d] from rfl, errX_no (core_not _ hcm), List.length_singleton] at HCK
   have HLT := hid hlt
   have hii1 : (i : Int) + 1 - (i : Int) = 1 := by omega
   clear hjs kk hok hcm hlt hi
   go_wp2_with fail
   refine HCK.out.mono ?_
   rintro e w2 ⟨rfl, hb⟩
   have HM2 := hid (HM.out.trans (hb.mono HM.out.size))
   clear hb HCK
   go_wp2_with fail
   go_roundw
   case rel => exact ⟨i + 1, HLT.out, by go_num, HM2.out⟩
   case measure => have := HLT.out; simp only [intOf]; omega
  obtain rfl : i = 7 := by omega
  have B2 := hid (B1.out.trans (HM.out.mono B1.out.size))
  clear hlt hi HCS HCD HC7 HCC HM
  go_wp2_with fail
  refine (HLP.out _ B2.out).mono ?_
  rintro e w3 ⟨hb, yo, ys, yc, rfl, hyd, hyo, -⟩
  have B3 := hid (B2.out.trans (hb.mono B2.out.size))
  have HLN := hid (show ys.length ≤ 1048576 by have := congrArg List.length hyd; rw [List.length_map, List.length_map] at this; have := HL.out; omega)
  have HNM := hid (Names_any yo ys yc HLN.out (HFT.out ys hyd).1 (HFT.out ys hyd).2 w3 hyo (HE.out.below B3.out))
  rw [hyd, ← HDS.out] at HNM
  clear hb hyd hyo HLN
  go_wp2_with fail
  refine HNM.out.mono ?_
  rintro e w4 ⟨hb, hp⟩
  have B4 := hid (B3.out.trans (hb.mono B3.out.size))
  clear hb HNM
  rcases hp with ⟨hr, rfl⟩ | ⟨hr, no, nc, outs, rfl, hns, hso, hln⟩
  ·clear hr
   go_wp2_with fail
   refine (awake5_any _ (HE.out.below B4.out)).mono ?_
   rintro e w5 ⟨rfl, hb⟩
   have B5 := hid (B4.out.trans (hb.mono B4.out.size))
   clear hb
   go_wp2_with fail
   go_ret
   exact ⟨rfl, B5.out⟩
  have HR := hid hr
  have hop : 0 < outs.length := by rw [hso, fold_len, List.length_nil, Nat.zero_add]; exact (names_few hr).2
  obtain ⟨q0, hq0, hq1⟩ : ∃ q0 : Nat, (IntKind.u64.wrap n).tmod (outs.length : Int) = (q0 : Int) ∧ q0 < outs.length := by
   have h0 : 0 ≤ IntKind.u64.wrap n := by rw [IntKind.wrap_u64]; omega
   have h1 := Int.tmod_nonneg (outs.length : Int) h0
   have h2 := Int.tmod_lt_of_pos (IntKind.u64.wrap n) (show (0 : Int) < (outs.length : Int) by omega)
   exact ⟨((IntKind.u64.wrap n).tmod (outs.length : Int)).toNat, by omega, by omega⟩
  have hmem := List.getElem_mem hq1
  rcases hns with h0 | ⟨na, rfl, hnc⟩
  ·rw [h0] at hop; cases hop
  have hcq := hnc q0 hq1
  rw [List.getElem?_eq_getElem hq1, Option.getD_some] at hcq
  generalize outs[q0]'hq1 = s at hmem hcq
  rw [hso] at hmem
  have HMEM := hid hmem
  have hw1 : IntKind.u64.wrap (outs.length : Int) = (outs.length : Int) := by rw [IntKind.wrap_u64]; omega
  have hw2 : wrap64 (q0 : Int) = (q0 : Int) := by unfold wrap64; omega
  have hne : (outs.length : Int) ≠ 0 := by omega
  have hqi : (q0 : Int) < (outs.length : Int) := by omega
  have HLE := hid hln
  clear hr hso hln hnc hmem hop hq1
  go_wp2_with fail
  obtain ⟨d, x, hdn, hxm, hdx, hsn⟩ := named_found HR.out HMEM.out
  have hxs : NameSmall x := by
   rcases hxm with h | h
   ·exact core_nameSmall x h
   ·exact HNS.out x h
  have hfit : DefFit d := by
   rcases hxm with h | h
   ·exact core_fit x h d hdx
   ·exact HSF.out x h d hdx
  have hqs : s.size = x.name.size + 1 + d.name.size := by rw [← hsn, ByteArray.size_append, ByteArray.size_append]; rfl
  have HQS := hid hqs
  have HXZ := hid (And.intro hxs.zn (hxs.each d hdx))
  have HDN := hid hdn
  have HFIT := hid hfit
  have HFO := hid (defn_short HR.out hdn).outs
  have HSN := hid hsn
  clear hdn hxm hdx hsn hxs hfit hqs hcq hw1 hw2 hne hqi hq0
  refine (HLP.out _ B4.out).mono ?_
  rintro e w5 ⟨hb, zo, zs, zc, rfl, hyd, hyo, -⟩
  have B5 := hid (B4.out.trans (hb.mono B4.out.size))
  have HLN := hid (show zs.length ≤ 1048576 by have := congrArg List.length hyd; rw [List.length_map, List.length_map] at this; have := HL.out; omega)
  have HFA := hid (Find_any zo zs zc (by have := HLN.out; omega) (HFT.out zs hyd).1 s (by have := HQS.out; have := HXZ.out; omega) w5 hyo (HE.out.below B5.out))
  rw [hyd, ← HDS.out] at HFA
  clear hb hyd hyo HLN
  go_wp2_with fail
  refine HFA.out.mono ?_
  rintro e w6 ⟨hb, hp⟩
  have B6 := hid (B5.out.trans (hb.mono B5.out.size))
  clear hb HFA
  rcases hp with ⟨h, -⟩ | ⟨-, h, -⟩ | ⟨-, y, h, hyo, rfl⟩
  ·rw [HR.out] at h; cases h
  ·rw [HDN.out] at h; cases h
  rw [HDN.out] at h
  obtain rfl := Option.some.inj h
  have HYO := hid hyo
  clear h hyo
  unfold DEl.val
  go_upto_region 14 with fail
  have T7 := hid (heap_alloc_new w6 (.cells #[.string y.d.name, .slice y.io y.d.ins.length y.ic, .slice y.oo y.d.outs.length y.oc, .slice y.no y.d.needs.length y.nc, .int .i64 y.d.regions, .int .i64 y.d.succs, .slice y.ko y.d.traits.length y.kc] 36))
  have HB7 := hid (new_below w6 (.cells #[.string y.d.name, .slice y.io y.d.ins.length y.ic, .slice y.oo y.d.outs.length y.oc, .slice y.no y.d.needs.length y.nc, .int .i64 y.d.regions, .int .i64 y.d.succs, .slice y.ko y.d.traits.length y.kc] 36))
  generalize w6.alloc (.cells #[.string y.d.name, .slice y.io y.d.ins.length y.ic, .slice y.oo y.d.outs.length y.oc, .slice y.no y.d.needs.length y.nc, .int .i64 y.d.regions, .int .i64 y.d.succs, .slice y.ko y.d.traits.length y.kc] 36) = w7 at T7 HB7 ⊢
  have B7 := hid (B6.out.trans (HB7.out.mono B6.out.size))
  have HYO7 := hid (HYO.out.below HB7.out)
  generalize w6.heap.size = D at T7 ⊢
  obtain ⟨q, hq⟩ : ∃ q, q = x.name.size := ⟨_, rfl⟩
  have hs1 : (s.size : Int) - (y.d.name.size : Int) = (q : Int) + 1 := by have := HQS.out; omega
  have hs2 : (q : Int) + 1 - 1 = (q : Int) := by omega
  have hs3 : (q : Int) ≤ (s.size : Int) := by have := HQS.out; omega
  have hs4 : ¬ ((s.size : Int) ≤ (y.d.name.size : Int)) := by have := HQS.out; omega
  have hs5 : decide ((s.size : Int) ≤ (y.d.name.size : Int)) = false := decide_eq_false hs4
  have hwr1 : IntKind.i64.wrap ((q : Int) + 1) = (q : Int) + 1 := by rw [IntKind.wrap_i64]; have := HXZ.out.1; omega
  have hwr2 : IntKind.i64.wrap (q : Int) = (q : Int) := by rw [IntKind.wrap_i64]; have := HXZ.out.1; omega
  have hext : s.extract q s.size = ⟨#[46]⟩ ++ y.d.name := by rw [hq]; exact dot_tail HSN.out
  clear hq
  have hadd := add_strings ⟨#[46]⟩ y.d.name (by decide) (by have := HXZ.out; omega)
  refine wp_region_held_drew (S := fun w' => Hid (Below w7.heap.size w7 w')) (by kernel_rfl) (hid (Below.refl w7.heap.size w7).drew) (fun hHeld => ?_)
  have HC0 := hid (fun (X : World) (h : Hid (Below w7.heap.size w7 X)) => show X.cell? ⟨D, 0, none⟩ = some (.string y.d.name) from (dcells7 ((h.out.block _ (lt_of_block T7.out)).trans T7.out)).1)
  generalize w7.drew = V0 at hHeld ⊢
  refine tkY 0 (.int .i64 0) hHeld ?_ ?_
  ·intro w9 hSw
   go_simp
  simp only [Act.put, sA, sC, sD, sE, sF]
  refine tkY 1 (.bool false) hHeld ?_ ?_
  ·intro w9 hSw
   go_simp
  simp only [Act.put, sA, sB, sC, sD, sE, sF]
  refine tkY 2 (.bool false) hHeld ?_ ?_
  ·intro w9 hSw
   go_simp
  simp only [Act.put, sA, sB, sC, sD, sE, sF]
  refine tkY 3 (.string s) hHeld ?_ ?_
  ·intro w9 hSw
   go_simp
  simp only [Act.put, sA, sB, sC, sD, sE, sF]
  refine tkY 4 (.int .i64 (s.size : Int)) hHeld ?_ ?_
  ·intro w9 hSw
   go_simp
  simp only [Act.put, sA, sB, sC, sD, sE, sF]
  refine tkY 5 (.pointer (some ⟨D, 0, none⟩)) hHeld ?_ ?_
  ·intro w9 hSw
   go_simp
  simp only [Act.put, sA, sB, sC, sD, sE, sF]
  refine tkY 6 (.string y.d.name) hHeld ?_ ?_
  ·intro w9 hSw
   have hcc := HC0.out w9 hSw
   go_simp
  simp only [Act.put, sA, sB, sC, sD, sE, sF]
  refine tkY 7 (.int .i64 (y.d.name.size : Int)) hHeld ?_ ?_
  ·intro w9 hSw
   go_simp
  simp only [Act.put, sA, sB, sC, sD, sE, sF]
  refine tkY 8 (.bool false) hHeld ?_ ?_
  ·intro w9 hSw
   go_simp
  simp only [Act.put, sA, sB, sC, sD, sE, sF]
  refine tkY 9 (.bool false) hHeld ?_ ?_
  ·intro w9 hSw
   go_simp
  simp only [Act.put, sA, sB, sC, sD, sE, sF]
  refine tkY 10 (.bool false) hHeld ?_ ?_
  ·intro w9 hSw
   go_simp
  simp only [Act.put, sA, sB, sC, sD, sE, sF]
  refine tkY 11 (.string s) hHeld ?_ ?_
  ·intro w9 hSw
   go_simp
  simp only [Act.put, sA, sB, sC, sD, sE, sF]
  refine tkY 12 (.string s) hHeld ?_ ?_
  ·intro w9 hSw
   go_simp
  simp only [Act.put, sA, sB, sC, sD, sE, sF]
  refine tkY 13 (.int .i64 (s.size : Int)) hHeld ?_ ?_
  ·intro w9 hSw
   go_simp
  simp only [Act.put, sA, sB, sC, sD, sE, sF]
  refine tkY 14 (.pointer (some ⟨D, 0, none⟩)) hHeld ?_ ?_
  ·intro w9 hSw
   go_simp
  simp only [Act.put, sA, sB, sC, sD, sE, sF]
  refine tkY 15 (.string y.d.name) hHeld ?_ ?_
  ·intro w9 hSw
   have hcc := HC0.out w9 hSw
   go_simp
  simp only [Act.put, sA, sB, sC, sD, sE, sF]
  refine tkY 16 (.int .i64 (y.d.name.size : Int)) hHeld ?_ ?_
  ·intro w9 hSw
   go_simp
  simp only [Act.put, sA, sB, sC, sD, sE, sF]
  refine tkY 17 (.int .i64 ((q : Int) + 1)) hHeld ?_ ?_
  ·intro w9 hSw
   go_simp
  simp only [Act.put, sA, sB, sC, sD, sE, sF]
  refine tkY 18 (.int .i64 (q : Int)) hHeld ?_ ?_
  ·intro w9 hSw
   go_simp
  simp only [Act.put, sA, sB, sC, sD, sE, sF]
  refine tkY 19 (.string (s.extract q s.size)) hHeld ?_ ?_
  ·intro w9 hSw
   go_simp
  simp only [Act.put, sA, sB, sC, sD, sE, sF]
  refine tkY 20 (.pointer (some ⟨D, 0, none⟩)) hHeld ?_ ?_
  ·intro w9 hSw
   go_simp
  simp only [Act.put, sA, sB, sC, sD, sE, sF]
  refine tkY 21 (.string y.d.name) hHeld ?_ ?_
  ·intro w9 hSw
   have hcc := HC0.out w9 hSw
   go_simp
  simp only [Act.put, sA, sB, sC, sD, sE, sF]
  refine tkY 22 (.string (⟨#[46]⟩ ++ y.d.name)) hHeld ?_ ?_
  ·intro w9 hSw
   go_simp
  simp only [Act.put, sA, sB, sC, sD, sE, sF]
  refine tkY 23 (.bool false) hHeld ?_ ?_
  ·intro w9 hSw
   go_simp
  simp only [Act.put, sA, sB, sC, sD, sE, sF]
  refine tkY 24 (.bool false) hHeld ?_ ?_
  ·intro w9 hSw
   go_simp
  simp only [Act.put, sA, sB, sC, sD, sE, sF]
  refine wpAnyH_done (by kernel_rfl) ?_ _
  have T8 := hid ((hHeld.out.block _ (lt_of_block T7.out)).trans T7.out)
  have B8 := hid (B7.out.trans (hHeld.out.mono B7.out.size))
  have HYO8 := hid (HYO7.out.below hHeld.out)
  clear hHeld HC0 T7 HYO HYO7 hs1 hs2 hs3 hs4 hs5 hwr1 hwr2 hext hadd
  obtain ⟨g0, g1, g2, g3, g4, g5, g6, gf⟩ := dcells7 T8.out
  have HIN := hid (Infer_any y HFIT.out io ins ic H1.out.len (fun s h => by have := H1.out.each s h; unfold maxLen; omega) V0 HYO8.out (HI.out.below B8.out) (HE.out.below B8.out))
  obtain ⟨out, z, hoz⟩ : ∃ out z, inferE y.d ins = (out, z) := ⟨_, _, rfl⟩
  rw [hoz] at HIN
  have HOZ := hid hoz
  have HOL := hid (show out.length ≤ 1048576 by
   have := infer_outs (d := y.d) (ins := ins) HFO.out
   rw [hoz] at this
   exact this)
  clear hoz
  unfold DEl.val at HIN
  go_wp2_with fail
  refine HIN.out.mono ?_
  rintro e w9 ⟨hb, vo, vc, rfl, hst, -⟩
  have T9 := hid ((hb.block _ (lt_of_block T8.out)).trans T8.out)
  have B9 := hid (B8.out.trans (hb.mono B8.out.size))
  have HYO9 := hid (HYO8.out.below hb)
  have HST9 := hid (show StrsAt w9 vo out from strs_keeps hst above_to)
  clear hb hst T8 HYO8 HIN g0 g1 g2 g3 g4 g5 g6 gf
  obtain ⟨g0, g1, g2, g3, g4, g5, g6, gf⟩ := dcells7 T9.out
  by_cases hz : z = 0
  ·subst hz
   obtain ⟨ht1, ht2⟩ := typed_ok (fun s hs => Nat.le_trans (HFIT.out.zo s hs) (by decide)) H1.out.sizes HOZ.out
   have HMT := hid (Match_any y HFIT.out io vo ins out ic vc H1.out.len HOL.out (fun s h => by have := H1.out.each s h; unfold maxLen; omega) (fun s h => by have := ht2 s h; unfold maxLen; omega) w9 HYO9.out (HI.out.below B9.out) HST9.out (HE.out.below B9.out))
   rw [ht1] at HMT
   clear ht1 ht2
   unfold DEl.val at HMT
   go_wp2_with fail
   refine HMT.out.mono ?_
   rintro e w10 ⟨rfl, hb⟩
   have B10 := hid (B9.out.trans (hb.mono B9.out.size))
   clear hb HMT g0 g1 g2 g3 g4 g5 g6 gf
   go_wp2_with fail
   refine (awake5_any _ (HE.out.below B10.out)).mono ?_
   rintro e w11 ⟨rfl, hb⟩
   have B11 := hid (B10.out.trans (hb.mono B10.out.size))
   clear hb
   go_wp2_with fail
   go_ret
   exact ⟨rfl, B11.out⟩
  ·have hzf : (z == 0) = false := beq_eq_false_iff_ne.2 hz
   clear g0 g1 g2 g3 g4 g5 g6 gf
   go_wp2_with fail
   refine (awake5_any _ (HE.out.below B9.out)).mono ?_
   rintro e w11 ⟨rfl, hb⟩
   have B11 := hid (B9.out.trans (hb.mono B9.out.size))
   clear hb
   go_wp2_with fail
   go_ret
   exact ⟨rfl, B11.out⟩
end Go.Proofs.YtgimdkgjfenafaaGreatDoor
