import Derived.Test.YtgimdkgjfenafaaGreatDoorCJDxTT
import Derived.Test.YtgimdkgjfenafaaGreatDoorCJDxLB
import Derived.Test.YtgimdkgjfenafaaGreatDoorCG31
import Derived.Test.YtgimdkgjfenafaaGreatDoorCJDxRA
namespace Go.Proofs.YtgimdkgjfenafaaGreatDoor
open Go.RowKit
open Lib (hid)
theorem right_parts {x : DiaD} : rightX x = true ↔ nameB x.name = true ∧ x.types.length ≤ 20 ∧ x.ops.length ≤ 60 ∧ (∀ (j : Nat) (s : ByteArray), x.types[j]? = some s → nameB s = true ∧ riseAt x.types j = true) ∧ (∀ (j : Nat) (d : DefD), x.ops[j]? = some d → rightD d = true ∧ riseAt (x.ops.map (·.name)) j = true) := by
 unfold rightX risingL
 simp only [Bool.and_eq_true, decide_eq_true_eq, List.all_eq_true, List.mem_range, List.length_map]
 constructor
 ·rintro ⟨⟨⟨⟨⟨⟨h1, h2⟩, h3⟩, h4⟩, h5⟩, h6⟩, h7⟩
  exact ⟨h1, h2, h3, fun j s hj => ⟨h4 s (List.mem_of_getElem? hj), h6 j (List.getElem?_eq_some_iff.1 hj).1⟩, fun j d hj => ⟨h5 d (List.mem_of_getElem? hj), h7 j (List.getElem?_eq_some_iff.1 hj).1⟩⟩
 ·rintro ⟨h1, h2, h3, h4, h5⟩
  refine ⟨⟨⟨⟨⟨⟨h1, h2⟩, h3⟩, fun s hs => ?_⟩, fun d hd => ?_⟩, fun j hj => (h4 j _ (List.getElem?_eq_getElem hj)).2⟩, fun j hj => (h5 j _ (List.getElem?_eq_getElem hj)).2⟩
  ·obtain ⟨j, hj⟩ := List.getElem?_of_mem hs
   exact (h4 j s hj).1
  ·obtain ⟨j, hj⟩ := List.getElem?_of_mem hd
   exact (h5 j d hj).1
theorem right_not {x : DiaD} (h : ¬ (nameB x.name = true ∧ x.types.length ≤ 20 ∧ x.ops.length ≤ 60 ∧ (∀ (j : Nat) (s : ByteArray), x.types[j]? = some s → nameB s = true ∧ riseAt x.types j = true) ∧ (∀ (j : Nat) (d : DefD), x.ops[j]? = some d → rightD d = true ∧ riseAt (x.ops.map (·.name)) j = true))) : rightX x = false := by
 cases hr : rightX x
 ·rfl
 ·exact absurd (right_parts.1 hr) h
set_option maxHeartbeats 32000000 in
set_option maxRecDepth 100000 in
theorem RRightOne_any (x : XEl) (hs : SmallX x) (w : World) (hd : DiaOK w x) : Calls Tryz.prog 42 #[.agg #[.string x.name, .slice x.yo x.types.length x.yc, .slice x.po x.ops.length x.pc]] w fun e w' => e = .returned (.bool (rightX x.d)) ∧ Below w.heap.size w w' := by
 have T0 := hid (heap_alloc_new w (.cells #[.string x.name, .slice x.yo x.types.length x.yc, .slice x.po x.ops.length x.pc] 87))
 have B1 := hid (new_below w (.cells #[.string x.name, .slice x.yo x.types.length x.yc, .slice x.po x.ops.length x.pc] 87))
 have HD := hid (hd.below B1.out)
 have HS := hid hs
 have hyi : (x.types.length : Int) ≤ 1048576 := by have := hs.lt; omega
 have hpi : (x.ops.length : Int) ≤ 1048576 := by have := hs.lo; omega
 clear hd hs
 go_enter Tryz.func42, Tryz.ntmps42
 go_upto_region 1 with fail
 generalize w.alloc (.cells #[.string x.name, .slice x.yo x.types.length x.yc, .slice x.po x.ops.length x.pc] 87) = W1 at T0 B1 HD ⊢
 generalize hD : w.heap.size = D at T0 ⊢
 have HDE := hid hD
 clear hD
 obtain ⟨c0, c1, c2, cf⟩ := cells3 T0.out
 go_wp2_with fail
 refine (IsName_some x.name W1).mono ?_
 rintro e w2 ⟨b, rfl, hb, rfl⟩
 cases b
 ·have HX := hid (right_not (x := x.d) fun h => by have := h.1; rw [show nameB x.d.name = false from hb] at this; cases this)
  clear hb
  go_wp2_with fail
  go_ret
  exact ⟨by rw [HX.out]; rfl, HDE.out ▸ B1.out⟩
 have HNM := hid (show nameB x.d.name = true from hb)
 clear hb
 by_cases h20 : x.types.length ≤ 20
 rotate_left
 ·have hg : decide ((x.types.length : Int) > 20) = true := decide_eq_true (by omega)
  have HX := hid (right_not (x := x.d) fun h => h20 h.2.1)
  clear h20
  go_wp2_with fail
  go_ret
  exact ⟨by rw [HX.out]; rfl, HDE.out ▸ B1.out⟩
 have hg1 : decide ((x.types.length : Int) > 20) = false := decide_eq_false (by omega)
 by_cases h60 : x.ops.length ≤ 60
 rotate_left
 ·have hg : decide ((x.ops.length : Int) > 60) = true := decide_eq_true (by omega)
  have HX := hid (right_not (x := x.d) fun h => h60 (by have := h.2.2.1; rw [show x.d.ops.length = x.ops.length from List.length_map _] at this; exact this))
  clear h60
  go_wp2_with fail
  go_ret
  exact ⟨by rw [HX.out]; rfl, HDE.out ▸ B1.out⟩
 have hg2 : decide ((x.ops.length : Int) > 60) = false := decide_eq_false (by omega)
 have H20 := hid h20
 have H60 := hid h60
 clear h20 h60
 go_wp2_with fail
 clear hg1 hg2 c0 c1 c2 cf
 go_loopw [3] (fun iv wr => ∃ m : Nat, m ≤ x.types.length ∧ iv = .int .i64 m ∧ Hid (Below W1.heap.size W1 wr ∧ ∀ (j : Nat) (s : ByteArray), j < m → x.types[j]? = some s → nameB s = true ∧ riseAt x.types j = true)) (fun iv _ => x.types.length - (intOf iv).toNat)
 case atStart => exact ⟨0, Nat.zero_le _, rfl, Below.refl _ _, fun j s h => absurd h (Nat.not_lt_zero _)⟩
 case round =>
  obtain ⟨m, hmm, rfl, HM⟩ := hrel
  have T1 := hid ((HM.out.1.block _ (lt_of_block T0.out)).trans T0.out)
  by_cases hlt : m < x.types.length
  rotate_left
  ·have hge : ¬ (m : Int) < (x.types.length : Int) := by omega
   have HTY := hid (show ∀ (j : Nat) (s : ByteArray), x.d.types[j]? = some s → nameB s = true ∧ riseAt x.d.types j = true from fun j s hj => HM.out.2 j s (by have := (List.getElem?_eq_some_iff.1 hj).1; have : x.d.types.length = x.types.length := rfl; omega) hj)
   clear hlt hmm
   obtain ⟨c0, c1, c2, cf⟩ := cells3 T1.out
   go_wp2_with fail
   clear c0 c1 c2 cf hge
   have BM := hid HM.out.1
   clear HM T1
   generalize wr = W5 at BM ⊢
   go_loopw [4] (fun iv wr => ∃ n : Nat, n ≤ x.ops.length ∧ iv = .int .i64 n ∧ Hid (Below W1.heap.size W1 wr ∧ ∀ (j : Nat) (d : DefD), j < n → x.d.ops[j]? = some d → rightD d = true ∧ riseAt (x.d.ops.map (·.name)) j = true)) (fun iv _ => x.ops.length - (intOf iv).toNat)
   case atStart => exact ⟨0, Nat.zero_le _, rfl, BM.out, fun j s h => absurd h (Nat.not_lt_zero _)⟩
   case round =>
    obtain ⟨n, hnn, rfl, HM⟩ := hrel
    have T1 := hid ((HM.out.1.block _ (lt_of_block T0.out)).trans T0.out)
    obtain ⟨c0, c1, c2, cf⟩ := cells3 T1.out
    by_cases hlt : n < x.ops.length
    rotate_left
    ·have hge : ¬ (n : Int) < (x.ops.length : Int) := by omega
     have HX := hid (show rightX x.d = true from right_parts.2 ⟨HNM.out, H20.out, by rw [show x.d.ops.length = x.ops.length from List.length_map _]; exact H60.out, HTY.out, fun j d hj => HM.out.2 j d (by have := (List.getElem?_eq_some_iff.1 hj).1; have : x.d.ops.length = x.ops.length := List.length_map _; omega) hj⟩)
     clear hlt hnn
     go_wp2_with fail
     go_ret
     exact ⟨by rw [HX.out]; rfl, HDE.out ▸ (B1.out.trans (HM.out.1.mono B1.out.size))⟩
    obtain ⟨bn, on, ha, -⟩ : ∃ bn on, x.po = some ⟨bn, on, none⟩ ∧ True := by
     rcases HD.out.ops.1 with h0 | ⟨bn, on, h, _⟩
     ·rw [h0] at hlt; exact absurd hlt (Nat.not_lt_zero _)
     ·exact ⟨bn, on, h, trivial⟩
    have hjs := List.getElem?_eq_getElem hlt
    have HSE := hid (HS.out.each _ (List.getElem_mem hlt))
    have HDE2 := hid (HD.out.ops.2 _ (List.getElem_mem hlt))
    generalize x.ops[n]'hlt = e at hjs HSE HDE2
    have HCS := hid (fun (j : Nat) (u : DEl) (hu : x.ops[j]? = some u) => show ∀ i v, u.cells[i]? = some v → wr.cell? ⟨bn, on + j * 7 + i, none⟩ = some v from by
     obtain ⟨bk', o', e', hc⟩ := RowIs.at del_len (HD.out.ops.1.below HM.out.1) hu
     rw [ha] at e'
     cases e'
     exact hc)
    have SLC := hid ha
    have HJ := hid hjs
    have HLT := hid hlt
    have hlti : (n : Int) < (x.ops.length : Int) := by omega
    clear hjs hlt hnn ha
    go_upto_region 11 with fail
    clear c0 c1 c2 cf
    refine wp_region_held_drew (S := fun w' => Hid (Keeps wr w')) (by kernel_rfl) (fun _ _ h => h) (fun hHeld => ?_)
    have HBV := hid (HM.out.1.drew)
    have HF := hid (fun (X : World) (h : Hid (Keeps wr X)) => (show X.cell? ⟨D, 2, none⟩ = some (.slice (some ⟨bn, on, none⟩) x.ops.length x.pc) by have := h.out _ _ (cells3 T1.out).2.2.1; rw [SLC.out] at this; exact this))
    have HC := hid (fun (X : World) (h : Hid (Keeps wr X)) => (show X.cell? ⟨bn, on + n * 7, none⟩ = some (.string e.d.name) ∧ X.cell? ⟨bn, on + n * 7 + 1, none⟩ = some (.slice e.io e.d.ins.length e.ic) ∧ X.cell? ⟨bn, on + n * 7 + 2, none⟩ = some (.slice e.oo e.d.outs.length e.oc) ∧ X.cell? ⟨bn, on + n * 7 + 3, none⟩ = some (.slice e.no e.d.needs.length e.nc) ∧ X.cell? ⟨bn, on + n * 7 + 4, none⟩ = some (.int .i64 e.d.regions) ∧ X.cell? ⟨bn, on + n * 7 + 5, none⟩ = some (.int .i64 e.d.succs) ∧ X.cell? ⟨bn, on + n * 7 + 6, none⟩ = some (.slice e.ko e.d.traits.length e.kc) from ⟨h.out _ _ (HCS.out n e HJ.out 0 _ rfl), h.out _ _ (HCS.out n e HJ.out 1 _ rfl), h.out _ _ (HCS.out n e HJ.out 2 _ rfl), h.out _ _ (HCS.out n e HJ.out 3 _ rfl), h.out _ _ (HCS.out n e HJ.out 4 _ rfl), h.out _ _ (HCS.out n e HJ.out 5 _ rfl), h.out _ _ (HCS.out n e HJ.out 6 _ rfl)⟩))
    have HC2 := hid (fun (X : World) (h : Hid (Keeps wr X)) (j : Nat) (u : DEl) (hu : x.ops[j]? = some u) => (show X.cell? ⟨bn, on + j * 7, none⟩ = some (.string u.d.name) from h.out _ _ (HCS.out j u hu 0 _ rfl)))
    have HRD := hid (fun (X : World) (h : Below W1.heap.size W1 X) => RRightDef_any e HSE.out X (HDE2.out.below h))
    generalize wr.drew = V0 at hHeld HBV ⊢
    refine tkY 0 (.pointer (some ⟨D, 2, none⟩)) hHeld ?_ ?_
    ·intro w9 hSw
     go_simp
    simp only [Act.put, sA, sC, sD, sE, sF]
    refine tkY 1 (.slice (some ⟨bn, on, none⟩) x.ops.length x.pc) hHeld ?_ ?_
    ·intro w9 hSw
     have hcc := HF.out w9 hSw
     go_simp
    simp only [Act.put, sA, sB, sC, sD, sE, sF]
    refine tkY 2 (.int .i64 (n : Int)) hHeld ?_ ?_
    ·intro w9 hSw
     go_simp
    simp only [Act.put, sA, sB, sC, sD, sE, sF]
    refine tkY 3 (.pointer (some ⟨bn, on + n * 7, none⟩)) hHeld ?_ ?_
    ·intro w9 hSw
     go_simp
    simp only [Act.put, sA, sB, sC, sD, sE, sF]
    refine tkY 4 (.agg #[.string e.d.name, .slice e.io e.d.ins.length e.ic, .slice e.oo e.d.outs.length e.oc, .slice e.no e.d.needs.length e.nc, .int .i64 e.d.regions, .int .i64 e.d.succs, .slice e.ko e.d.traits.length e.kc]) hHeld ?_ ?_
    ·intro w9 hSw
     obtain ⟨h0, h1, h2, h3, h4, h5, h6⟩ := HC.out w9 hSw
     go_simp
    simp only [Act.put, sA, sB, sC, sD, sE, sF]
    have HCI := hid (HRD.out V0 HBV.out)
    unfold DEl.val at HCI
    generalize hrr : rightD e.d = b at HCI
    have HBN := hid hrr
    clear hrr
    refine wpAnyH_ready (rs := [5]) (by kernel_rfl) (by simp) ?_
    refine AllReadyH.cons rfl (fun K hK => ?_) AllReadyH.nil
    go_simp
    go_at_call 24
    with_reducible refine HCI.out.mono ?_
    rintro e5 w4 ⟨rfl, hb⟩
    try dsimp only
    have HB4 := hid (HBV.out.trans (hb.mono HBV.out.size))
    refine hK.out _ _ (show Hid (Keeps wr w4) from hHeld.out.trans (Keeps.of_below hb)) (fun hEnd => ?_)
    clear hK K hb hHeld HCI HBV HC
    have hHeld := hEnd
    clear hEnd
    try simp only [Act.put, sA, sB, sC, sD, sE, sF]
    cases b
    ·skip
     refine tkY 6 (.bool true) hHeld ?_ ?_
     ·intro w9 hSw
      go_simp
     simp only [Act.put, sA, sB, sC, sD, sE, sF]
     refine tkY 7 (.bool true) hHeld ?_ ?_
     ·intro w9 hSw
      go_simp
     simp only [Act.put, sA, sB, sC, sD, sE, sF]
     refine tkN 8 hHeld ?_
     simp only [Act.put, sA, sB, sC, sD, sE, sF]
     refine tkN 9 hHeld ?_
     simp only [Act.put, sA, sB, sC, sD, sE, sF]
     refine tkN 10 hHeld ?_
     simp only [Act.put, sA, sB, sC, sD, sE, sF]
     refine tkN 11 hHeld ?_
     simp only [Act.put, sA, sB, sC, sD, sE, sF]
     refine tkN 12 hHeld ?_
     simp only [Act.put, sA, sB, sC, sD, sE, sF]
     refine tkN 13 hHeld ?_
     simp only [Act.put, sA, sB, sC, sD, sE, sF]
     refine tkN 14 hHeld ?_
     simp only [Act.put, sA, sB, sC, sD, sE, sF]
     refine tkN 15 hHeld ?_
     simp only [Act.put, sA, sB, sC, sD, sE, sF]
     refine tkN 16 hHeld ?_
     simp only [Act.put, sA, sB, sC, sD, sE, sF]
     refine tkN 17 hHeld ?_
     simp only [Act.put, sA, sB, sC, sD, sE, sF]
     refine tkN 18 hHeld ?_
     simp only [Act.put, sA, sB, sC, sD, sE, sF]
     refine tkN 19 hHeld ?_
     simp only [Act.put, sA, sB, sC, sD, sE, sF]
     refine tkN 20 hHeld ?_
     simp only [Act.put, sA, sB, sC, sD, sE, sF]
     refine tkN 21 hHeld ?_
     simp only [Act.put, sA, sB, sC, sD, sE, sF]
     refine tkN 22 hHeld ?_
     simp only [Act.put, sA, sB, sC, sD, sE, sF]
     refine tkN 23 hHeld ?_
     simp only [Act.put, sA, sB, sC, sD, sE, sF]
     refine tkN 24 hHeld ?_
     simp only [Act.put, sA, sB, sC, sD, sE, sF]
     refine tkN 25 hHeld ?_
     simp only [Act.put, sA, sB, sC, sD, sE, sF]
     refine tkY 26 (.bool true) hHeld ?_ ?_
     ·intro w9 hSw
      go_simp
     simp only [Act.put, sA, sB, sC, sD, sE, sF]
     refine wpAnyH_done (by kernel_rfl) ?_ _
     have HX := hid (right_not (x := x.d) fun h => by
      have := (h.2.2.2.2 n e.d (by show (x.ops.map (·.d))[n]? = _; rw [List.getElem?_map, HJ.out]; rfl)).1; rw [HBN.out] at this; cases this)
     go_wp2_with fail
     go_ret
     exact ⟨by rw [HX.out]; rfl, HDE.out ▸ (B1.out.trans (HB4.out.mono B1.out.size))⟩
    refine tkY 6 (.bool false) hHeld ?_ ?_
    ·intro w9 hSw
     go_simp
    simp only [Act.put, sA, sB, sC, sD, sE, sF]
    refine tkY 7 (.bool false) hHeld ?_ ?_
    ·intro w9 hSw
     go_simp
    simp only [Act.put, sA, sB, sC, sD, sE, sF]
    by_cases h0 : n = 0
    ·subst h0
     have hz : decide (((0 : Nat) : Int) > 0) = false := rfl
     refine tkY 8 (.int .i64 ((0 : Nat) : Int)) hHeld ?_ ?_
     ·intro w9 hSw
      go_simp
     simp only [Act.put, sA, sB, sC, sD, sE, sF]
     refine tkY 9 (.bool false) hHeld ?_ ?_
     ·intro w9 hSw
      go_simp
     simp only [Act.put, sA, sB, sC, sD, sE, sF]
     refine tkY 10 (.bool false) hHeld ?_ ?_
     ·intro w9 hSw
      go_simp
     simp only [Act.put, sA, sB, sC, sD, sE, sF]
     refine tkN 11 hHeld ?_
     simp only [Act.put, sA, sB, sC, sD, sE, sF]
     refine tkN 12 hHeld ?_
     simp only [Act.put, sA, sB, sC, sD, sE, sF]
     refine tkN 13 hHeld ?_
     simp only [Act.put, sA, sB, sC, sD, sE, sF]
     refine tkN 14 hHeld ?_
     simp only [Act.put, sA, sB, sC, sD, sE, sF]
     refine tkN 15 hHeld ?_
     simp only [Act.put, sA, sB, sC, sD, sE, sF]
     refine tkN 16 hHeld ?_
     simp only [Act.put, sA, sB, sC, sD, sE, sF]
     refine tkN 17 hHeld ?_
     simp only [Act.put, sA, sB, sC, sD, sE, sF]
     refine tkN 18 hHeld ?_
     simp only [Act.put, sA, sB, sC, sD, sE, sF]
     refine tkN 19 hHeld ?_
     simp only [Act.put, sA, sB, sC, sD, sE, sF]
     refine tkN 20 hHeld ?_
     simp only [Act.put, sA, sB, sC, sD, sE, sF]
     refine tkN 21 hHeld ?_
     simp only [Act.put, sA, sB, sC, sD, sE, sF]
     refine tkN 22 hHeld ?_
     simp only [Act.put, sA, sB, sC, sD, sE, sF]
     refine tkN 23 hHeld ?_
     simp only [Act.put, sA, sB, sC, sD, sE, sF]
     refine tkN 24 hHeld ?_
     simp only [Act.put, sA, sB, sC, sD, sE, sF]
     refine tkY 25 (.bool false) hHeld ?_ ?_
     ·intro w9 hSw
      go_simp
     simp only [Act.put, sA, sB, sC, sD, sE, sF]
     refine tkY 26 (.bool false) hHeld ?_ ?_
     ·intro w9 hSw
      go_simp
     simp only [Act.put, sA, sB, sC, sD, sE, sF]
     clear hz
     refine wpAnyH_done (by kernel_rfl) ?_ _
     have HJD := hid (show x.d.ops[0]? = some e.d by show (x.ops.map (·.d))[0]? = _; rw [List.getElem?_map, HJ.out]; rfl)
     go_wp2_with fail
     go_roundw
     case rel => exact ⟨0 + 1, HLT.out, rfl, HB4.out, fun j y hj hy => by
       obtain rfl : j = 0 := by omega
       rw [HJD.out] at hy
       cases hy
       exact ⟨HBN.out, rfl⟩⟩
     case measure => have := HLT.out; simp only [intOf]; omega
    obtain ⟨p, hpm⟩ : ∃ p, n = p + 1 := ⟨n - 1, by omega⟩
    have HPM := hid hpm
    have hp0 : 0 < n := by omega
    have hpl : (p : Int) < (x.ops.length : Int) := by omega
    have q1 : IntKind.i64.wrap ((n : Int) - 1) = (p : Int) := by rw [IntKind.wrap_i64]; omega
    have hpg := List.getElem?_eq_getElem (show p < x.ops.length by have := HLT.out; omega)
    generalize x.ops[p]'_ = u at hpg
    have HPG := hid hpg
    clear hpg h0 hpm
    have HCP := hid (fun (X : World) (h : Hid (Keeps wr X)) => HC2.out X h p u HPG.out)
    have HCM := hid (fun (X : World) (h : Hid (Keeps wr X)) => HC2.out X h n e HJ.out)
    refine tkY 8 (.int .i64 (n : Int)) hHeld ?_ ?_
    ·intro w9 hSw
     go_simp
    simp only [Act.put, sA, sB, sC, sD, sE, sF]
    refine tkY 9 (.bool true) hHeld ?_ ?_
    ·intro w9 hSw
     go_simp
    simp only [Act.put, sA, sB, sC, sD, sE, sF]
    refine tkY 10 (.bool true) hHeld ?_ ?_
    ·intro w9 hSw
     go_simp
    simp only [Act.put, sA, sB, sC, sD, sE, sF]
    refine tkY 11 (.pointer (some ⟨D, 2, none⟩)) hHeld ?_ ?_
    ·intro w9 hSw
     go_simp
    simp only [Act.put, sA, sB, sC, sD, sE, sF]
    refine tkY 12 (.slice (some ⟨bn, on, none⟩) x.ops.length x.pc) hHeld ?_ ?_
    ·intro w9 hSw
     have hcc := HF.out w9 hSw
     go_simp
    simp only [Act.put, sA, sB, sC, sD, sE, sF]
    refine tkY 13 (.int .i64 (n : Int)) hHeld ?_ ?_
    ·intro w9 hSw
     go_simp
    simp only [Act.put, sA, sB, sC, sD, sE, sF]
    refine tkY 14 (.int .i64 (p : Int)) hHeld ?_ ?_
    ·intro w9 hSw
     go_simp
    simp only [Act.put, sA, sB, sC, sD, sE, sF]
    refine tkY 15 (.pointer (some ⟨bn, on + p * 7, none⟩)) hHeld ?_ ?_
    ·intro w9 hSw
     go_simp
    simp only [Act.put, sA, sB, sC, sD, sE, sF]
    refine tkY 16 (.pointer (some ⟨bn, on + p * 7, none⟩)) hHeld ?_ ?_
    ·intro w9 hSw
     go_simp
    simp only [Act.put, sA, sB, sC, sD, sE, sF]
    refine tkY 17 (.string u.d.name) hHeld ?_ ?_
    ·intro w9 hSw
     have hcc := HCP.out w9 hSw
     go_simp
    simp only [Act.put, sA, sB, sC, sD, sE, sF]
    refine tkY 18 (.pointer (some ⟨D, 2, none⟩)) hHeld ?_ ?_
    ·intro w9 hSw
     go_simp
    simp only [Act.put, sA, sB, sC, sD, sE, sF]
    refine tkY 19 (.slice (some ⟨bn, on, none⟩) x.ops.length x.pc) hHeld ?_ ?_
    ·intro w9 hSw
     have hcc := HF.out w9 hSw
     go_simp
    simp only [Act.put, sA, sB, sC, sD, sE, sF]
    refine tkY 20 (.int .i64 (n : Int)) hHeld ?_ ?_
    ·intro w9 hSw
     go_simp
    simp only [Act.put, sA, sB, sC, sD, sE, sF]
    refine tkY 21 (.pointer (some ⟨bn, on + n * 7, none⟩)) hHeld ?_ ?_
    ·intro w9 hSw
     go_simp
    simp only [Act.put, sA, sB, sC, sD, sE, sF]
    refine tkY 22 (.pointer (some ⟨bn, on + n * 7, none⟩)) hHeld ?_ ?_
    ·intro w9 hSw
     go_simp
    simp only [Act.put, sA, sB, sC, sD, sE, sF]
    refine tkY 23 (.string e.d.name) hHeld ?_ ?_
    ·intro w9 hSw
     have hcc := HCM.out w9 hSw
     go_simp
    simp only [Act.put, sA, sB, sC, sD, sE, sF]
    cases hls : Op.bytesLess u.d.name.toList e.d.name.toList
    ·have HRF := hid (show riseAt (x.d.ops.map (·.name)) n = false by rw [HPM.out]; exact riseAt_at (by rw [List.getElem?_map]; show Option.map _ (x.ops.map (·.d))[p]? = _; rw [List.getElem?_map, HPG.out]; rfl) (by rw [← HPM.out]; rw [List.getElem?_map]; show Option.map _ (x.ops.map (·.d))[n]? = _; rw [List.getElem?_map, HJ.out]; rfl) hls)
     refine tkY 24 (.bool true) hHeld ?_ ?_
     ·intro w9 hSw
      go_simp
     simp only [Act.put, sA, sB, sC, sD, sE, sF]
     refine tkY 25 (.bool true) hHeld ?_ ?_
     ·intro w9 hSw
      go_simp
     simp only [Act.put, sA, sB, sC, sD, sE, sF]
     refine tkY 26 (.bool true) hHeld ?_ ?_
     ·intro w9 hSw
      go_simp
     simp only [Act.put, sA, sB, sC, sD, sE, sF]
     clear hls hp0 q1
     refine wpAnyH_done (by kernel_rfl) ?_ _
     have HX := hid (right_not (x := x.d) fun h => by
      have := (h.2.2.2.2 n e.d (by show (x.ops.map (·.d))[n]? = _; rw [List.getElem?_map, HJ.out]; rfl)).2; rw [HRF.out] at this; cases this)
     go_wp2_with fail
     go_ret
     exact ⟨by rw [HX.out]; rfl, HDE.out ▸ (B1.out.trans (HB4.out.mono B1.out.size))⟩
    ·have HRT := hid (show riseAt (x.d.ops.map (·.name)) n = true by rw [HPM.out]; exact riseAt_at (by rw [List.getElem?_map]; show Option.map _ (x.ops.map (·.d))[p]? = _; rw [List.getElem?_map, HPG.out]; rfl) (by rw [← HPM.out]; rw [List.getElem?_map]; show Option.map _ (x.ops.map (·.d))[n]? = _; rw [List.getElem?_map, HJ.out]; rfl) hls)
     refine tkY 24 (.bool false) hHeld ?_ ?_
     ·intro w9 hSw
      go_simp
     simp only [Act.put, sA, sB, sC, sD, sE, sF]
     refine tkY 25 (.bool false) hHeld ?_ ?_
     ·intro w9 hSw
      go_simp
     simp only [Act.put, sA, sB, sC, sD, sE, sF]
     refine tkY 26 (.bool false) hHeld ?_ ?_
     ·intro w9 hSw
      go_simp
     simp only [Act.put, sA, sB, sC, sD, sE, sF]
     clear hls hp0 q1
     refine wpAnyH_done (by kernel_rfl) ?_ _
     have HRI := hid (show riseAt (x.d.ops.map (·.name)) n = true from HRT.out)
     have HJD := hid (show x.d.ops[n]? = some e.d by show (x.ops.map (·.d))[n]? = _; rw [List.getElem?_map, HJ.out]; rfl)
     go_wp2_with fail
     go_roundw
     case rel => exact ⟨n + 1, HLT.out, by go_num, HB4.out, fun j y hj hy => by
       rcases Nat.lt_or_ge j n with h | h
       ·exact HM.out.2 j y h hy
       ·obtain rfl : j = n := by omega
        rw [HJD.out] at hy
        cases hy
        exact ⟨HBN.out, HRI.out⟩⟩
     case measure => have := HLT.out; simp only [intOf]; omega
  obtain ⟨a, ha⟩ : ∃ a, x.yo = some a := by
   rcases HD.out.types with h0 | ⟨a, h, _⟩
   ·rw [h0] at hlt; exact absurd hlt (Nat.not_lt_zero _)
   ·exact ⟨a, h⟩
  have hjs := List.getElem?_eq_getElem hlt
  generalize x.types[m]'hlt = s at hjs
  have HCS := hid (fun (j : Nat) (u : ByteArray) (hu : x.types[j]? = some u) => strs_at (ha ▸ HD.out.types.below HM.out.1) hu)
  have SLC := hid ha
  have HJ := hid hjs
  have HLT := hid hlt
  have hlti : (m : Int) < (x.types.length : Int) := by omega
  clear hjs hlt hmm ha
  obtain ⟨c0, c1, c2, cf⟩ := cells3 T1.out
  go_upto_region 6 with fail
  clear c0 c1 c2 cf
  refine wp_region_held_drew (S := fun w' => Hid (Keeps wr w')) (by kernel_rfl) (fun _ _ h => h) (fun hHeld => ?_)
  have HBV := hid (HM.out.1.drew)
  have HF := hid (fun (X : World) (h : Hid (Keeps wr X)) => (show X.cell? ⟨D, 1, none⟩ = some (.slice (some a) x.types.length x.yc) by have := h.out _ _ (cells3 T1.out).2.1; rw [SLC.out] at this; exact this))
  have HC := hid (fun (X : World) (h : Hid (Keeps wr X)) => h.out _ _ (HCS.out m s HJ.out))
  have HC2 := hid (fun (X : World) (h : Hid (Keeps wr X)) (j : Nat) (u : ByteArray) (hu : x.types[j]? = some u) => h.out _ _ (HCS.out j u hu))
  generalize wr.drew = V0 at hHeld HBV ⊢
  refine tkY 0 (.pointer (some ⟨D, 1, none⟩)) hHeld ?_ ?_
  ·intro w9 hSw
   go_simp
  simp only [Act.put, sA, sC, sD, sE, sF]
  refine tkY 1 (.slice (some a) x.types.length x.yc) hHeld ?_ ?_
  ·intro w9 hSw
   have hcc := HF.out w9 hSw
   go_simp
  simp only [Act.put, sA, sB, sC, sD, sE, sF]
  refine tkY 2 (.int .i64 (m : Int)) hHeld ?_ ?_
  ·intro w9 hSw
   go_simp
  simp only [Act.put, sA, sB, sC, sD, sE, sF]
  refine tkY 3 (.pointer (some (a.add m))) hHeld ?_ ?_
  ·intro w9 hSw
   go_simp
  simp only [Act.put, sA, sB, sC, sD, sE, sF]
  refine tkY 4 (.string s) hHeld ?_ ?_
  ·intro w9 hSw
   have hcc := HC.out w9 hSw
   go_simp
  simp only [Act.put, sA, sB, sC, sD, sE, sF]
  have HCI := hid (IsName_some s V0)
  refine wpAnyH_ready (rs := [5]) (by kernel_rfl) (by simp) ?_
  refine AllReadyH.cons rfl (fun K hK => ?_) AllReadyH.nil
  go_simp
  go_at_call 50
  with_reducible refine HCI.out.mono ?_
  rintro e w4 ⟨b, rfl, hb, rfl⟩
  try dsimp only
  have HBN := hid (show nameB s = b from hb)
  have HB4 := HBV
  refine hK.out _ _ hHeld (fun hEnd => ?_)
  clear hK K hb hHeld HCI HBV HC
  have hHeld := hEnd
  clear hEnd
  try simp only [Act.put, sA, sB, sC, sD, sE, sF]
  cases b
  ·skip
   refine tkY 6 (.bool true) hHeld ?_ ?_
   ·intro w9 hSw
    go_simp
   simp only [Act.put, sA, sB, sC, sD, sE, sF]
   refine tkY 7 (.bool true) hHeld ?_ ?_
   ·intro w9 hSw
    go_simp
   simp only [Act.put, sA, sB, sC, sD, sE, sF]
   refine tkN 8 hHeld ?_
   simp only [Act.put, sA, sB, sC, sD, sE, sF]
   refine tkN 9 hHeld ?_
   simp only [Act.put, sA, sB, sC, sD, sE, sF]
   refine tkN 10 hHeld ?_
   simp only [Act.put, sA, sB, sC, sD, sE, sF]
   refine tkN 11 hHeld ?_
   simp only [Act.put, sA, sB, sC, sD, sE, sF]
   refine tkN 12 hHeld ?_
   simp only [Act.put, sA, sB, sC, sD, sE, sF]
   refine tkN 13 hHeld ?_
   simp only [Act.put, sA, sB, sC, sD, sE, sF]
   refine tkN 14 hHeld ?_
   simp only [Act.put, sA, sB, sC, sD, sE, sF]
   refine tkN 15 hHeld ?_
   simp only [Act.put, sA, sB, sC, sD, sE, sF]
   refine tkN 16 hHeld ?_
   simp only [Act.put, sA, sB, sC, sD, sE, sF]
   refine tkN 17 hHeld ?_
   simp only [Act.put, sA, sB, sC, sD, sE, sF]
   refine tkN 18 hHeld ?_
   simp only [Act.put, sA, sB, sC, sD, sE, sF]
   refine tkN 19 hHeld ?_
   simp only [Act.put, sA, sB, sC, sD, sE, sF]
   refine tkN 20 hHeld ?_
   simp only [Act.put, sA, sB, sC, sD, sE, sF]
   refine tkN 21 hHeld ?_
   simp only [Act.put, sA, sB, sC, sD, sE, sF]
   refine tkN 22 hHeld ?_
   simp only [Act.put, sA, sB, sC, sD, sE, sF]
   refine tkN 23 hHeld ?_
   simp only [Act.put, sA, sB, sC, sD, sE, sF]
   refine tkY 24 (.bool true) hHeld ?_ ?_
   ·intro w9 hSw
    go_simp
   simp only [Act.put, sA, sB, sC, sD, sE, sF]
   refine wpAnyH_done (by kernel_rfl) ?_ _
   have HX := hid (right_not (x := x.d) fun h => by
    have := (h.2.2.2.1 m s HJ.out).1; rw [HBN.out] at this; cases this)
   go_wp2_with fail
   go_ret
   exact ⟨by rw [HX.out]; rfl, HDE.out ▸ (B1.out.trans (HB4.out.mono B1.out.size))⟩
  refine tkY 6 (.bool false) hHeld ?_ ?_
  ·intro w9 hSw
   go_simp
  simp only [Act.put, sA, sB, sC, sD, sE, sF]
  refine tkY 7 (.bool false) hHeld ?_ ?_
  ·intro w9 hSw
   go_simp
  simp only [Act.put, sA, sB, sC, sD, sE, sF]
  by_cases h0 : m = 0
  ·subst h0
   have hz : decide (((0 : Nat) : Int) > 0) = false := rfl
   refine tkY 8 (.int .i64 ((0 : Nat) : Int)) hHeld ?_ ?_
   ·intro w9 hSw
    go_simp
   simp only [Act.put, sA, sB, sC, sD, sE, sF]
   refine tkY 9 (.bool false) hHeld ?_ ?_
   ·intro w9 hSw
    go_simp
   simp only [Act.put, sA, sB, sC, sD, sE, sF]
   refine tkY 10 (.bool false) hHeld ?_ ?_
   ·intro w9 hSw
    go_simp
   simp only [Act.put, sA, sB, sC, sD, sE, sF]
   refine tkN 11 hHeld ?_
   simp only [Act.put, sA, sB, sC, sD, sE, sF]
   refine tkN 12 hHeld ?_
   simp only [Act.put, sA, sB, sC, sD, sE, sF]
   refine tkN 13 hHeld ?_
   simp only [Act.put, sA, sB, sC, sD, sE, sF]
   refine tkN 14 hHeld ?_
   simp only [Act.put, sA, sB, sC, sD, sE, sF]
   refine tkN 15 hHeld ?_
   simp only [Act.put, sA, sB, sC, sD, sE, sF]
   refine tkN 16 hHeld ?_
   simp only [Act.put, sA, sB, sC, sD, sE, sF]
   refine tkN 17 hHeld ?_
   simp only [Act.put, sA, sB, sC, sD, sE, sF]
   refine tkN 18 hHeld ?_
   simp only [Act.put, sA, sB, sC, sD, sE, sF]
   refine tkN 19 hHeld ?_
   simp only [Act.put, sA, sB, sC, sD, sE, sF]
   refine tkN 20 hHeld ?_
   simp only [Act.put, sA, sB, sC, sD, sE, sF]
   refine tkN 21 hHeld ?_
   simp only [Act.put, sA, sB, sC, sD, sE, sF]
   refine tkN 22 hHeld ?_
   simp only [Act.put, sA, sB, sC, sD, sE, sF]
   refine tkY 23 (.bool false) hHeld ?_ ?_
   ·intro w9 hSw
    go_simp
   simp only [Act.put, sA, sB, sC, sD, sE, sF]
   refine tkY 24 (.bool false) hHeld ?_ ?_
   ·intro w9 hSw
    go_simp
   simp only [Act.put, sA, sB, sC, sD, sE, sF]
   clear hz
   refine wpAnyH_done (by kernel_rfl) ?_ _
   go_wp2_with fail
   go_roundw
   case rel => exact ⟨0 + 1, HLT.out, rfl, HB4.out, fun j y hj hy => by
     obtain rfl : j = 0 := by omega
     rw [HJ.out] at hy
     cases hy
     exact ⟨HBN.out, rfl⟩⟩
   case measure => have := HLT.out; simp only [intOf]; omega
  obtain ⟨p, hpm⟩ : ∃ p, m = p + 1 := ⟨m - 1, by omega⟩
  have HPM := hid hpm
  have hp0 : 0 < m := by omega
  have hpl : (p : Int) < (x.types.length : Int) := by omega
  have q1 : IntKind.i64.wrap ((m : Int) - 1) = (p : Int) := by rw [IntKind.wrap_i64]; omega
  have hpg := List.getElem?_eq_getElem (show p < x.types.length by have := HLT.out; omega)
  generalize x.types[p]'_ = u at hpg
  have HPG := hid hpg
  clear hpg h0 hpm
  have HCP := hid (fun (X : World) (h : Hid (Keeps wr X)) => HC2.out X h p u HPG.out)
  have HCM := hid (fun (X : World) (h : Hid (Keeps wr X)) => HC2.out X h m s HJ.out)
  refine tkY 8 (.int .i64 (m : Int)) hHeld ?_ ?_
  ·intro w9 hSw
   go_simp
  simp only [Act.put, sA, sB, sC, sD, sE, sF]
  refine tkY 9 (.bool true) hHeld ?_ ?_
  ·intro w9 hSw
   go_simp
  simp only [Act.put, sA, sB, sC, sD, sE, sF]
  refine tkY 10 (.bool true) hHeld ?_ ?_
  ·intro w9 hSw
   go_simp
  simp only [Act.put, sA, sB, sC, sD, sE, sF]
  refine tkY 11 (.pointer (some ⟨D, 1, none⟩)) hHeld ?_ ?_
  ·intro w9 hSw
   go_simp
  simp only [Act.put, sA, sB, sC, sD, sE, sF]
  refine tkY 12 (.slice (some a) x.types.length x.yc) hHeld ?_ ?_
  ·intro w9 hSw
   have hcc := HF.out w9 hSw
   go_simp
  simp only [Act.put, sA, sB, sC, sD, sE, sF]
  refine tkY 13 (.int .i64 (m : Int)) hHeld ?_ ?_
  ·intro w9 hSw
   go_simp
  simp only [Act.put, sA, sB, sC, sD, sE, sF]
  refine tkY 14 (.int .i64 (p : Int)) hHeld ?_ ?_
  ·intro w9 hSw
   go_simp
  simp only [Act.put, sA, sB, sC, sD, sE, sF]
  refine tkY 15 (.pointer (some (a.add p))) hHeld ?_ ?_
  ·intro w9 hSw
   go_simp
  simp only [Act.put, sA, sB, sC, sD, sE, sF]
  refine tkY 16 (.string u) hHeld ?_ ?_
  ·intro w9 hSw
   have hcc := HCP.out w9 hSw
   go_simp
  simp only [Act.put, sA, sB, sC, sD, sE, sF]
  refine tkY 17 (.pointer (some ⟨D, 1, none⟩)) hHeld ?_ ?_
  ·intro w9 hSw
   go_simp
  simp only [Act.put, sA, sB, sC, sD, sE, sF]
  refine tkY 18 (.slice (some a) x.types.length x.yc) hHeld ?_ ?_
  ·intro w9 hSw
   have hcc := HF.out w9 hSw
   go_simp
  simp only [Act.put, sA, sB, sC, sD, sE, sF]
  refine tkY 19 (.int .i64 (m : Int)) hHeld ?_ ?_
  ·intro w9 hSw
   go_simp
  simp only [Act.put, sA, sB, sC, sD, sE, sF]
  refine tkY 20 (.pointer (some (a.add m))) hHeld ?_ ?_
  ·intro w9 hSw
   go_simp
  simp only [Act.put, sA, sB, sC, sD, sE, sF]
  refine tkY 21 (.string s) hHeld ?_ ?_
  ·intro w9 hSw
   have hcc := HCM.out w9 hSw
   go_simp
  simp only [Act.put, sA, sB, sC, sD, sE, sF]
  cases hls : Op.bytesLess u.toList s.toList
  ·have HRF := hid (show riseAt x.types m = false by rw [HPM.out]; exact riseAt_at (by exact HPG.out) (by rw [← HPM.out]; exact HJ.out) hls)
   refine tkY 22 (.bool true) hHeld ?_ ?_
   ·intro w9 hSw
    go_simp
   simp only [Act.put, sA, sB, sC, sD, sE, sF]
   refine tkY 23 (.bool true) hHeld ?_ ?_
   ·intro w9 hSw
    go_simp
   simp only [Act.put, sA, sB, sC, sD, sE, sF]
   refine tkY 24 (.bool true) hHeld ?_ ?_
   ·intro w9 hSw
    go_simp
   simp only [Act.put, sA, sB, sC, sD, sE, sF]
   clear hls hp0 q1
   refine wpAnyH_done (by kernel_rfl) ?_ _
   have HX := hid (right_not (x := x.d) fun h => by
    have := (h.2.2.2.1 m s HJ.out).2; rw [show riseAt x.d.types m = false from HRF.out] at this; cases this)
   go_wp2_with fail
   go_ret
   exact ⟨by rw [HX.out]; rfl, HDE.out ▸ (B1.out.trans (HB4.out.mono B1.out.size))⟩
  ·have HRT := hid (show riseAt x.types m = true by rw [HPM.out]; exact riseAt_at (by exact HPG.out) (by rw [← HPM.out]; exact HJ.out) hls)
   refine tkY 22 (.bool false) hHeld ?_ ?_
   ·intro w9 hSw
    go_simp
   simp only [Act.put, sA, sB, sC, sD, sE, sF]
   refine tkY 23 (.bool false) hHeld ?_ ?_
   ·intro w9 hSw
    go_simp
   simp only [Act.put, sA, sB, sC, sD, sE, sF]
   refine tkY 24 (.bool false) hHeld ?_ ?_
   ·intro w9 hSw
    go_simp
   simp only [Act.put, sA, sB, sC, sD, sE, sF]
   clear hls hp0 q1
   refine wpAnyH_done (by kernel_rfl) ?_ _
   have HRI := hid (show riseAt x.types m = true from HRT.out)
   go_wp2_with fail
   go_roundw
   case rel => exact ⟨m + 1, HLT.out, by go_num, HB4.out, fun j y hj hy => by
     rcases Nat.lt_or_ge j m with h | h
     ·exact HM.out.2 j y h hy
     ·obtain rfl : j = m := by omega
      rw [HJ.out] at hy
      cases hy
      exact ⟨HBN.out, HRI.out⟩⟩
   case measure => have := HLT.out; simp only [intOf]; omega
theorem list_parts {l : List DiaD} : rightXs l = true ↔ l.length ≤ 10 ∧ ∀ (j : Nat) (y : DiaD), l[j]? = some y → goodX y = true ∧ riseAt (l.map (·.name)) j = true := by
 unfold rightXs risingL
 simp only [Bool.and_eq_true, decide_eq_true_eq, List.all_eq_true, List.mem_range, List.length_map]
 constructor
 ·rintro ⟨⟨h1, h2⟩, h3⟩
  exact ⟨h1, fun j y hj => ⟨h3 y (List.mem_of_getElem? hj), h2 j (List.getElem?_eq_some_iff.1 hj).1⟩⟩
 ·rintro ⟨h1, h2⟩
  refine ⟨⟨h1, fun j hj => (h2 j _ (List.getElem?_eq_getElem hj)).2⟩, fun y hy => ?_⟩
  obtain ⟨j, hj⟩ := List.getElem?_of_mem hy
  exact (h2 j y hj).1
theorem list_not {l : List DiaD} (h : ¬ (l.length ≤ 10 ∧ ∀ (j : Nat) (y : DiaD), l[j]? = some y → goodX y = true ∧ riseAt (l.map (·.name)) j = true)) : rightXs l = false := by
 cases hr : rightXs l
 ·rfl
 ·exact absurd (list_parts.1 hr) h
set_option maxHeartbeats 32000000 in
set_option maxRecDepth 100000 in
theorem RRight_any (ao : Option Addr) (xs : List XEl) (c0 : Nat) (hs : ∀ x ∈ xs, SmallX x) (hl : xs.length ≤ 1048576) (w : World) (hd : DiasAt w ao xs) : Calls Tryz.prog 15 #[.slice ao xs.length c0] w fun e w' => e = .returned (.bool (rightXs (xs.map XEl.d))) ∧ Below w.heap.size w w' := by
 obtain ⟨W1, hW1⟩ : ∃ W1, W1 = w.alloc (.cells #[.string ⟨#[97, 114, 105, 116, 104]⟩, .string ⟨#[97, 114, 114]⟩, .string ⟨#[99, 102]⟩, .string ⟨#[102, 117, 110, 99]⟩, .string ⟨#[105, 111]⟩, .string ⟨#[109, 101, 109]⟩, .string ⟨#[115, 99, 102]⟩] 9) := ⟨_, rfl⟩
 have HCN := hid (show StrsAt W1 (some ⟨w.heap.size, 0, none⟩) coreNamesL from strs_is (T := 9) (by rw [hW1]; exact heap_alloc_new _ _))
 have B1 := hid (show Below w.heap.size w W1 from by rw [hW1]; exact new_below _ _)
 have HD := hid (hd.below B1.out)
 have HS := hid hs
 have HL := hid hl
 have hli : (xs.length : Int) ≤ 1048576 := by omega
 have HLM := hid (show (xs.map XEl.d).length = xs.length from List.length_map _)
 obtain ⟨ds, hds⟩ : ∃ ds, ds = xs.map XEl.d := ⟨_, rfl⟩
 rw [← hds] at HLM ⊢
 have HAT := hid (show ∀ (j : Nat) (x : XEl), xs[j]? = some x → ds[j]? = some x.d from fun j x h => by rw [hds, List.getElem?_map, h]; rfl)
 clear hd hs hl hds
 go_enter Tryz.func15, Tryz.ntmps15
 go_upto_region 2 with fail
 rw [← hW1]
 clear hW1
 generalize hC : w.heap.size = C at HCN ⊢
 have HCE := hid hC
 clear hC
 go_wp2_with fail
 go_loopw [4] (fun iv wr => ∃ m : Nat, m ≤ xs.length ∧ iv = .int .i64 m ∧ Hid (Below W1.heap.size W1 wr ∧ ∀ (j : Nat) (y : DiaD), j < m → ds[j]? = some y → goodX y = true ∧ riseAt (ds.map (·.name)) j = true)) (fun iv _ => xs.length - (intOf iv).toNat)
 case atStart => exact ⟨0, Nat.zero_le _, rfl, Below.refl _ _, fun j s h => absurd h (Nat.not_lt_zero _)⟩
 case round =>
  obtain ⟨m, hmm, rfl, HM⟩ := hrel
  by_cases hlt : m < xs.length
  rotate_left
  ·have hge : ¬ (m : Int) < (xs.length : Int) := by omega
   have HA := hid (show ∀ (j : Nat) (y : DiaD), ds[j]? = some y → goodX y = true ∧ riseAt (ds.map (·.name)) j = true from fun j y hj => HM.out.2 j y (by have := (List.getElem?_eq_some_iff.1 hj).1; have := HLM.out; omega) hj)
   clear hlt hmm
   by_cases h10 : xs.length ≤ 10
   ·have hg : (xs.length : Int) ≤ 10 := by omega
    have HX := hid (list_parts.2 ⟨by rw [HLM.out]; exact h10, HA.out⟩)
    clear h10
    go_wp2_with fail
    go_ret
    exact ⟨by rw [HX.out]; rfl, HCE.out ▸ (B1.out.trans (HM.out.1.mono B1.out.size))⟩
   ·have hg : ¬ (xs.length : Int) ≤ 10 := by omega
    have HX := hid (list_not (l := ds) fun h => h10 (by rw [← HLM.out]; exact h.1))
    clear h10
    go_wp2_with fail
    go_ret
    exact ⟨by rw [HX.out]; rfl, HCE.out ▸ (B1.out.trans (HM.out.1.mono B1.out.size))⟩
  have hjs := List.getElem?_eq_getElem hlt
  have hsx := HS.out _ (List.getElem_mem hlt)
  have hdx := HD.out.2 _ (List.getElem_mem hlt)
  obtain ⟨bk, o, e1, -⟩ := RowIs.at xel_len (HD.out.1.below HM.out.1) hjs
  obtain rfl : ao = _ := e1
  generalize xs[m]'hlt = x at hjs hsx hdx
  have HCS := hid (fun (j : Nat) (u : XEl) (hu : xs[j]? = some u) => show ∀ i v, u.cells[i]? = some v → wr.cell? ⟨bk, o + j * 3 + i, none⟩ = some v from by
   obtain ⟨bk', o', e', hc⟩ := RowIs.at xel_len (HD.out.1.below HM.out.1) hu
   cases e'
   exact hc)
  have HJ := hid hjs
  have HJD := hid (HAT.out m x hjs)
  have HSX := hid hsx
  have HDX := hid hdx
  have HLT := hid hlt
  have hlti : (m : Int) < (xs.length : Int) := by omega
  clear hjs hsx hdx hlt hmm
  go_upto_region 5 with fail
  refine wp_region_held_drew (S := fun w' => Hid (Keeps wr w')) (by kernel_rfl) (fun _ _ h => h) (fun hHeld => ?_)
  have HBV := hid (HM.out.1.drew)
  have HC := hid (fun (X : World) (h : Hid (Keeps wr X)) => (show X.cell? ⟨bk, o + m * 3, none⟩ = some (.string x.name) ∧ X.cell? ⟨bk, o + m * 3 + 1, none⟩ = some (.slice x.yo x.types.length x.yc) ∧ X.cell? ⟨bk, o + m * 3 + 2, none⟩ = some (.slice x.po x.ops.length x.pc) from ⟨h.out _ _ (HCS.out m x HJ.out 0 _ rfl), h.out _ _ (HCS.out m x HJ.out 1 _ rfl), h.out _ _ (HCS.out m x HJ.out 2 _ rfl)⟩))
  have HC2 := hid (fun (X : World) (h : Hid (Keeps wr X)) (j : Nat) (u : XEl) (hu : xs[j]? = some u) => (show X.cell? ⟨bk, o + j * 3, none⟩ = some (.string u.name) from h.out _ _ (HCS.out j u hu 0 _ rfl)))
  have HCM := hid (fun (X : World) (h : Hid (Keeps wr X)) => HC2.out X h m x HJ.out)
  generalize wr.drew = V0 at hHeld HBV ⊢
  refine tkY 0 (.slice (some ⟨bk, o, none⟩) xs.length c0) hHeld ?_ ?_
  ·intro w9 hSw
   go_simp
  simp only [Act.put, sA, sC, sD, sE, sF]
  refine tkY 1 (.int .i64 (m : Int)) hHeld ?_ ?_
  ·intro w9 hSw
   go_simp
  simp only [Act.put, sA, sB, sC, sD, sE, sF]
  refine tkY 2 (.pointer (some ⟨bk, o + m * 3, none⟩)) hHeld ?_ ?_
  ·intro w9 hSw
   go_simp
  simp only [Act.put, sA, sB, sC, sD, sE, sF]
  refine tkY 3 (.agg #[.string x.name, .slice x.yo x.types.length x.yc, .slice x.po x.ops.length x.pc]) hHeld ?_ ?_
  ·intro w9 hSw
   obtain ⟨h0, h1, h2⟩ := HC.out w9 hSw
   go_simp
  simp only [Act.put, sA, sB, sC, sD, sE, sF]
  have HCI := hid (RRightOne_any x HSX.out V0 (HDX.out.below HBV.out))
  generalize hrr : rightX x.d = b at HCI
  have HBN := hid hrr
  clear hrr
  refine wpAnyH_ready (rs := [4]) (by kernel_rfl) (by simp) ?_
  refine AllReadyH.cons rfl (fun K hK => ?_) AllReadyH.nil
  go_simp
  go_at_call 42
  with_reducible refine HCI.out.mono ?_
  rintro e5 w4 ⟨rfl, hb⟩
  try dsimp only
  have HB4 := hid (HBV.out.trans (hb.mono HBV.out.size))
  refine hK.out _ _ (show Hid (Keeps wr w4) from hHeld.out.trans (Keeps.of_below hb)) (fun hEnd => ?_)
  clear hK K hb hHeld HCI HBV HC
  have hHeld := hEnd
  clear hEnd
  try simp only [Act.put, sA, sB, sC, sD, sE, sF]
  cases b
  ·skip
   refine tkY 5 (.bool true) hHeld ?_ ?_
   ·intro w9 hSw
    go_simp
   simp only [Act.put, sA, sB, sC, sD, sE, sF]
   refine tkY 6 (.bool true) hHeld ?_ ?_
   ·intro w9 hSw
    go_simp
   simp only [Act.put, sA, sB, sC, sD, sE, sF]
   refine tkN 7 hHeld ?_
   simp only [Act.put, sA, sB, sC, sD, sE, sF]
   refine tkN 8 hHeld ?_
   simp only [Act.put, sA, sB, sC, sD, sE, sF]
   refine tkN 9 hHeld ?_
   simp only [Act.put, sA, sB, sC, sD, sE, sF]
   refine tkN 10 hHeld ?_
   simp only [Act.put, sA, sB, sC, sD, sE, sF]
   refine tkN 11 hHeld ?_
   simp only [Act.put, sA, sB, sC, sD, sE, sF]
   refine tkN 12 hHeld ?_
   simp only [Act.put, sA, sB, sC, sD, sE, sF]
   refine tkN 13 hHeld ?_
   simp only [Act.put, sA, sB, sC, sD, sE, sF]
   refine tkY 14 (.bool true) hHeld ?_ ?_
   ·intro w9 hSw
    go_simp
   simp only [Act.put, sA, sB, sC, sD, sE, sF]
   refine tkY 15 (.bool true) hHeld ?_ ?_
   ·intro w9 hSw
    go_simp
   simp only [Act.put, sA, sB, sC, sD, sE, sF]
   refine tkN 16 hHeld ?_
   simp only [Act.put, sA, sB, sC, sD, sE, sF]
   refine tkN 17 hHeld ?_
   simp only [Act.put, sA, sB, sC, sD, sE, sF]
   refine tkN 18 hHeld ?_
   simp only [Act.put, sA, sB, sC, sD, sE, sF]
   refine tkN 19 hHeld ?_
   simp only [Act.put, sA, sB, sC, sD, sE, sF]
   refine tkN 20 hHeld ?_
   simp only [Act.put, sA, sB, sC, sD, sE, sF]
   refine tkN 21 hHeld ?_
   simp only [Act.put, sA, sB, sC, sD, sE, sF]
   refine tkN 22 hHeld ?_
   simp only [Act.put, sA, sB, sC, sD, sE, sF]
   refine tkN 23 hHeld ?_
   simp only [Act.put, sA, sB, sC, sD, sE, sF]
   refine tkN 24 hHeld ?_
   simp only [Act.put, sA, sB, sC, sD, sE, sF]
   refine tkN 25 hHeld ?_
   simp only [Act.put, sA, sB, sC, sD, sE, sF]
   refine tkN 26 hHeld ?_
   simp only [Act.put, sA, sB, sC, sD, sE, sF]
   refine tkN 27 hHeld ?_
   simp only [Act.put, sA, sB, sC, sD, sE, sF]
   refine tkN 28 hHeld ?_
   simp only [Act.put, sA, sB, sC, sD, sE, sF]
   refine tkN 29 hHeld ?_
   simp only [Act.put, sA, sB, sC, sD, sE, sF]
   refine tkN 30 hHeld ?_
   simp only [Act.put, sA, sB, sC, sD, sE, sF]
   refine tkN 31 hHeld ?_
   simp only [Act.put, sA, sB, sC, sD, sE, sF]
   refine tkY 32 (.bool true) hHeld ?_ ?_
   ·intro w9 hSw
    go_simp
   simp only [Act.put, sA, sB, sC, sD, sE, sF]
   refine wpAnyH_done (by kernel_rfl) ?_ _
   have HX := hid (list_not (l := ds) fun h => by
    have := (h.2 m x.d HJD.out).1; unfold goodX at this; rw [HBN.out] at this; simp at this)
   go_wp2_with fail
   go_ret
   exact ⟨by rw [HX.out]; rfl, HCE.out ▸ (B1.out.trans (HB4.out.mono B1.out.size))⟩
  refine tkY 5 (.bool false) hHeld ?_ ?_
  ·intro w9 hSw
   go_simp
  simp only [Act.put, sA, sB, sC, sD, sE, sF]
  refine tkY 6 (.bool false) hHeld ?_ ?_
  ·intro w9 hSw
   go_simp
  simp only [Act.put, sA, sB, sC, sD, sE, sF]
  refine tkY 7 (.slice (some ⟨C, 0, none⟩) 7 7) hHeld ?_ ?_
  ·intro w9 hSw
   go_simp
  simp only [Act.put, sA, sB, sC, sD, sE, sF]
  refine tkY 8 (.slice (some ⟨bk, o, none⟩) xs.length c0) hHeld ?_ ?_
  ·intro w9 hSw
   go_simp
  simp only [Act.put, sA, sB, sC, sD, sE, sF]
  refine tkY 9 (.int .i64 (m : Int)) hHeld ?_ ?_
  ·intro w9 hSw
   go_simp
  simp only [Act.put, sA, sB, sC, sD, sE, sF]
  refine tkY 10 (.pointer (some ⟨bk, o + m * 3, none⟩)) hHeld ?_ ?_
  ·intro w9 hSw
   go_simp
  simp only [Act.put, sA, sB, sC, sD, sE, sF]
  refine tkY 11 (.pointer (some ⟨bk, o + m * 3, none⟩)) hHeld ?_ ?_
  ·intro w9 hSw
   go_simp
  simp only [Act.put, sA, sB, sC, sD, sE, sF]
  refine tkY 12 (.string x.name) hHeld ?_ ?_
  ·intro w9 hSw
   have hcc := HCM.out w9 hSw
   go_simp
  simp only [Act.put, sA, sB, sC, sD, sE, sF]
  have HCI := hid (RHas_any (some ⟨C, 0, none⟩) coreNamesL 7 x.name (by decide) w4 (HCN.out.below HB4.out))
  generalize hrr : isIn coreNamesL x.name = b at HCI
  have HIN := hid hrr
  clear hrr
  refine wpAnyH_ready (rs := [13]) (by kernel_rfl) (by simp) ?_
  refine AllReadyH.cons rfl (fun K hK => ?_) AllReadyH.nil
  go_simp
  go_at_call 33
  refine HCI.out.mono ?_
  rintro e5 w5 ⟨rfl, rfl⟩
  try dsimp only
  refine hK.out _ _ hHeld (fun hEnd => ?_)
  clear hK K hHeld HCI
  have hHeld := hEnd
  clear hEnd
  try simp only [Act.put, sA, sB, sC, sD, sE, sF]
  cases b
  rotate_left
  ·skip
   refine tkY 14 (.bool true) hHeld ?_ ?_
   ·intro w9 hSw
    go_simp
   simp only [Act.put, sA, sB, sC, sD, sE, sF]
   refine tkY 15 (.bool true) hHeld ?_ ?_
   ·intro w9 hSw
    go_simp
   simp only [Act.put, sA, sB, sC, sD, sE, sF]
   refine tkN 16 hHeld ?_
   simp only [Act.put, sA, sB, sC, sD, sE, sF]
   refine tkN 17 hHeld ?_
   simp only [Act.put, sA, sB, sC, sD, sE, sF]
   refine tkN 18 hHeld ?_
   simp only [Act.put, sA, sB, sC, sD, sE, sF]
   refine tkN 19 hHeld ?_
   simp only [Act.put, sA, sB, sC, sD, sE, sF]
   refine tkN 20 hHeld ?_
   simp only [Act.put, sA, sB, sC, sD, sE, sF]
   refine tkN 21 hHeld ?_
   simp only [Act.put, sA, sB, sC, sD, sE, sF]
   refine tkN 22 hHeld ?_
   simp only [Act.put, sA, sB, sC, sD, sE, sF]
   refine tkN 23 hHeld ?_
   simp only [Act.put, sA, sB, sC, sD, sE, sF]
   refine tkN 24 hHeld ?_
   simp only [Act.put, sA, sB, sC, sD, sE, sF]
   refine tkN 25 hHeld ?_
   simp only [Act.put, sA, sB, sC, sD, sE, sF]
   refine tkN 26 hHeld ?_
   simp only [Act.put, sA, sB, sC, sD, sE, sF]
   refine tkN 27 hHeld ?_
   simp only [Act.put, sA, sB, sC, sD, sE, sF]
   refine tkN 28 hHeld ?_
   simp only [Act.put, sA, sB, sC, sD, sE, sF]
   refine tkN 29 hHeld ?_
   simp only [Act.put, sA, sB, sC, sD, sE, sF]
   refine tkN 30 hHeld ?_
   simp only [Act.put, sA, sB, sC, sD, sE, sF]
   refine tkN 31 hHeld ?_
   simp only [Act.put, sA, sB, sC, sD, sE, sF]
   refine tkY 32 (.bool true) hHeld ?_ ?_
   ·intro w9 hSw
    go_simp
   simp only [Act.put, sA, sB, sC, sD, sE, sF]
   refine wpAnyH_done (by kernel_rfl) ?_ _
   have HX := hid (list_not (l := ds) fun h => by
    have := (h.2 m x.d HJD.out).1; unfold goodX at this; rw [show isIn coreNamesL x.d.name = true from HIN.out] at this; simp at this)
   go_wp2_with fail
   go_ret
   exact ⟨by rw [HX.out]; rfl, HCE.out ▸ (B1.out.trans (HB4.out.mono B1.out.size))⟩
  refine tkY 14 (.bool false) hHeld ?_ ?_
  ·intro w9 hSw
   go_simp
  simp only [Act.put, sA, sB, sC, sD, sE, sF]
  refine tkY 15 (.bool false) hHeld ?_ ?_
  ·intro w9 hSw
   go_simp
  simp only [Act.put, sA, sB, sC, sD, sE, sF]
  by_cases h0 : m = 0
  ·subst h0
   refine tkY 16 (.int .i64 ((0 : Nat) : Int)) hHeld ?_ ?_
   ·intro w9 hSw
    go_simp
   simp only [Act.put, sA, sB, sC, sD, sE, sF]
   refine tkY 17 (.bool false) hHeld ?_ ?_
   ·intro w9 hSw
    go_simp
   simp only [Act.put, sA, sB, sC, sD, sE, sF]
   refine tkY 18 (.bool false) hHeld ?_ ?_
   ·intro w9 hSw
    go_simp
   simp only [Act.put, sA, sB, sC, sD, sE, sF]
   refine tkN 19 hHeld ?_
   simp only [Act.put, sA, sB, sC, sD, sE, sF]
   refine tkN 20 hHeld ?_
   simp only [Act.put, sA, sB, sC, sD, sE, sF]
   refine tkN 21 hHeld ?_
   simp only [Act.put, sA, sB, sC, sD, sE, sF]
   refine tkN 22 hHeld ?_
   simp only [Act.put, sA, sB, sC, sD, sE, sF]
   refine tkN 23 hHeld ?_
   simp only [Act.put, sA, sB, sC, sD, sE, sF]
   refine tkN 24 hHeld ?_
   simp only [Act.put, sA, sB, sC, sD, sE, sF]
   refine tkN 25 hHeld ?_
   simp only [Act.put, sA, sB, sC, sD, sE, sF]
   refine tkN 26 hHeld ?_
   simp only [Act.put, sA, sB, sC, sD, sE, sF]
   refine tkN 27 hHeld ?_
   simp only [Act.put, sA, sB, sC, sD, sE, sF]
   refine tkN 28 hHeld ?_
   simp only [Act.put, sA, sB, sC, sD, sE, sF]
   refine tkN 29 hHeld ?_
   simp only [Act.put, sA, sB, sC, sD, sE, sF]
   refine tkN 30 hHeld ?_
   simp only [Act.put, sA, sB, sC, sD, sE, sF]
   refine tkY 31 (.bool false) hHeld ?_ ?_
   ·intro w9 hSw
    go_simp
   simp only [Act.put, sA, sB, sC, sD, sE, sF]
   refine tkY 32 (.bool false) hHeld ?_ ?_
   ·intro w9 hSw
    go_simp
   simp only [Act.put, sA, sB, sC, sD, sE, sF]
   refine wpAnyH_done (by kernel_rfl) ?_ _
   have HGD := hid (show goodX x.d = true by unfold goodX; rw [show isIn coreNamesL x.d.name = false from HIN.out, HBN.out]; rfl)
   go_wp2_with fail
   go_roundw
   case rel => exact ⟨0 + 1, HLT.out, rfl, HB4.out, fun j y hj hy => by
     rcases Nat.lt_or_ge j 0 with h | h
     ·exact HM.out.2 j y h hy
     ·obtain rfl : j = 0 := by omega
      rw [HJD.out] at hy
      cases hy
      exact ⟨HGD.out, rfl⟩⟩
   case measure => have := HLT.out; simp only [intOf]; omega
  obtain ⟨p, hpm⟩ : ∃ p, m = p + 1 := ⟨m - 1, by omega⟩
  have HPM := hid hpm
  have hp0 : 0 < m := by omega
  have hpl : (p : Int) < (xs.length : Int) := by omega
  have q1 : IntKind.i64.wrap ((m : Int) - 1) = (p : Int) := by rw [IntKind.wrap_i64]; omega
  have hpg := List.getElem?_eq_getElem (show p < xs.length by have := HLT.out; omega)
  generalize xs[p]'_ = u at hpg
  have HPD := hid (HAT.out p u hpg)
  have HCP := hid (fun (X : World) (h : Hid (Keeps wr X)) => HC2.out X h p u hpg)
  clear hpg h0 hpm
  refine tkY 16 (.int .i64 (m : Int)) hHeld ?_ ?_
  ·intro w9 hSw
   go_simp
  simp only [Act.put, sA, sB, sC, sD, sE, sF]
  refine tkY 17 (.bool true) hHeld ?_ ?_
  ·intro w9 hSw
   go_simp
  simp only [Act.put, sA, sB, sC, sD, sE, sF]
  refine tkY 18 (.bool true) hHeld ?_ ?_
  ·intro w9 hSw
   go_simp
  simp only [Act.put, sA, sB, sC, sD, sE, sF]
  refine tkY 19 (.slice (some ⟨bk, o, none⟩) xs.length c0) hHeld ?_ ?_
  ·intro w9 hSw
   go_simp
  simp only [Act.put, sA, sB, sC, sD, sE, sF]
  refine tkY 20 (.int .i64 (m : Int)) hHeld ?_ ?_
  ·intro w9 hSw
   go_simp
  simp only [Act.put, sA, sB, sC, sD, sE, sF]
  refine tkY 21 (.int .i64 (p : Int)) hHeld ?_ ?_
  ·intro w9 hSw
   go_simp
  simp only [Act.put, sA, sB, sC, sD, sE, sF]
  refine tkY 22 (.pointer (some ⟨bk, o + p * 3, none⟩)) hHeld ?_ ?_
  ·intro w9 hSw
   go_simp
  simp only [Act.put, sA, sB, sC, sD, sE, sF]
  refine tkY 23 (.pointer (some ⟨bk, o + p * 3, none⟩)) hHeld ?_ ?_
  ·intro w9 hSw
   go_simp
  simp only [Act.put, sA, sB, sC, sD, sE, sF]
  refine tkY 24 (.string u.name) hHeld ?_ ?_
  ·intro w9 hSw
   have hcc := HCP.out w9 hSw
   go_simp
  simp only [Act.put, sA, sB, sC, sD, sE, sF]
  refine tkY 25 (.slice (some ⟨bk, o, none⟩) xs.length c0) hHeld ?_ ?_
  ·intro w9 hSw
   go_simp
  simp only [Act.put, sA, sB, sC, sD, sE, sF]
  refine tkY 26 (.int .i64 (m : Int)) hHeld ?_ ?_
  ·intro w9 hSw
   go_simp
  simp only [Act.put, sA, sB, sC, sD, sE, sF]
  refine tkY 27 (.pointer (some ⟨bk, o + m * 3, none⟩)) hHeld ?_ ?_
  ·intro w9 hSw
   go_simp
  simp only [Act.put, sA, sB, sC, sD, sE, sF]
  refine tkY 28 (.pointer (some ⟨bk, o + m * 3, none⟩)) hHeld ?_ ?_
  ·intro w9 hSw
   go_simp
  simp only [Act.put, sA, sB, sC, sD, sE, sF]
  refine tkY 29 (.string x.name) hHeld ?_ ?_
  ·intro w9 hSw
   have hcc := HCM.out w9 hSw
   go_simp
  simp only [Act.put, sA, sB, sC, sD, sE, sF]
  cases hls : Op.bytesLess u.name.toList x.name.toList
  ·have HRF := hid (show riseAt (ds.map (·.name)) m = false by rw [HPM.out]; exact riseAt_at (by rw [List.getElem?_map, HPD.out]; rfl) (by rw [← HPM.out, List.getElem?_map, HJD.out]; rfl) hls)
   refine tkY 30 (.bool true) hHeld ?_ ?_
   ·intro w9 hSw
    go_simp
   simp only [Act.put, sA, sB, sC, sD, sE, sF]
   refine tkY 31 (.bool true) hHeld ?_ ?_
   ·intro w9 hSw
    go_simp
   simp only [Act.put, sA, sB, sC, sD, sE, sF]
   refine tkY 32 (.bool true) hHeld ?_ ?_
   ·intro w9 hSw
    go_simp
   simp only [Act.put, sA, sB, sC, sD, sE, sF]
   clear hls hp0 q1
   refine wpAnyH_done (by kernel_rfl) ?_ _
   have HX := hid (list_not (l := ds) fun h => by
    have := (h.2 m x.d HJD.out).2; rw [HRF.out] at this; cases this)
   go_wp2_with fail
   go_ret
   exact ⟨by rw [HX.out]; rfl, HCE.out ▸ (B1.out.trans (HB4.out.mono B1.out.size))⟩
  ·have HRT := hid (show riseAt (ds.map (·.name)) m = true by rw [HPM.out]; exact riseAt_at (by rw [List.getElem?_map, HPD.out]; rfl) (by rw [← HPM.out, List.getElem?_map, HJD.out]; rfl) hls)
   refine tkY 30 (.bool false) hHeld ?_ ?_
   ·intro w9 hSw
    go_simp
   simp only [Act.put, sA, sB, sC, sD, sE, sF]
   refine tkY 31 (.bool false) hHeld ?_ ?_
   ·intro w9 hSw
    go_simp
   simp only [Act.put, sA, sB, sC, sD, sE, sF]
   refine tkY 32 (.bool false) hHeld ?_ ?_
   ·intro w9 hSw
    go_simp
   simp only [Act.put, sA, sB, sC, sD, sE, sF]
   clear hls hp0 q1
   refine wpAnyH_done (by kernel_rfl) ?_ _
   have HGD := hid (show goodX x.d = true by unfold goodX; rw [show isIn coreNamesL x.d.name = false from HIN.out, HBN.out]; rfl)
   go_wp2_with fail
   go_roundw
   case rel => exact ⟨m + 1, HLT.out, by go_num, HB4.out, fun j y hj hy => by
     rcases Nat.lt_or_ge j m with h | h
     ·exact HM.out.2 j y h hy
     ·obtain rfl : j = m := by omega
      rw [HJD.out] at hy
      cases hy
      exact ⟨HGD.out, HRT.out⟩⟩
   case measure => have := HLT.out; simp only [intOf]; omega
end Go.Proofs.YtgimdkgjfenafaaGreatDoor
