import Derived.Test.YtgimdkgjfenafaaGreatDoorCG43
import Derived.Test.YtgimdkgjfenafaaGreatDoorCG44
import Derived.BigQuiet
namespace Go.Proofs.YtgimdkgjfenafaaGreatDoor
open Go.RowKit
theorem same_len {xs ys : List XEl} {m : Nat} {x y : XEl} (h : xs.map XEl.d = ys.map XEl.d) (hx : xs[m]? = some x) (hy : ys[m]? = some y) : x.name = y.name ∧ x.types = y.types ∧ x.ops.map (·.d) = y.ops.map (·.d) := by
 have h1 : (xs.map XEl.d)[m]? = some x.d := by rw [List.getElem?_map, hx]; rfl
 have h2 : (ys.map XEl.d)[m]? = some y.d := by rw [List.getElem?_map, hy]; rfl
 rw [h, h2] at h1
 have e := Option.some.inj h1
 unfold XEl.d at e
 injection e with a b c
 exact ⟨a.symm, b.symm, c.symm⟩
theorem strs_lit {w : World} {T : TypeId} (ss : List ByteArray) : StrsAt (w.alloc (.cells (ss.map Value.string).toArray T)) (some ⟨w.heap.size, 0, none⟩) ss := strs_is (heap_alloc_new _ _)
structure AwS (w : World) (y z : DEl) (a b : Nat) (X : World) : Prop where
 below : Below w.heap.size w X
 ha : X.heap[a]? = some (.cells #[.string y.d.name, .slice y.io y.d.ins.length y.ic, .slice y.oo y.d.outs.length y.oc, .slice y.no y.d.needs.length y.nc, .int .i64 y.d.regions, .int .i64 y.d.succs, .slice y.ko y.d.traits.length y.kc] 36 (0, 0))
 hb : X.heap[b]? = some (.cells #[.string z.d.name, .slice z.io z.d.ins.length z.ic, .slice z.oo z.d.outs.length z.oc, .slice z.no z.d.needs.length z.nc, .int .i64 z.d.regions, .int .i64 z.d.succs, .slice z.ko z.d.traits.length z.kc] 36 (0, 0))
 oy : DefOK X y
 oz : DefOK X z
theorem AwS.moved {w X X' : World} {y z : DEl} {a b : Nat} (h : AwS w y z a b X) (hb : Below X.heap.size X X') : AwS w y z a b X' :=
 ⟨h.below.trans (hb.mono h.below.size), (hb.block _ (lt_of_block h.ha)).trans h.ha, (hb.block _ (lt_of_block h.hb)).trans h.hb, h.oy.below hb, h.oz.below hb⟩
set_option maxHeartbeats 16000000 in
set_option maxRecDepth 100000 in
theorem awake5_any (w : World) (hE : Env w) : Calls Tryz.prog 16 #[] w fun e w' => e = .returned (.bool true) ∧ Below w.heap.size w w' := by
 have HE := Lib.hid hE
 clear hE
 go_enter Tryz.func16, Tryz.ntmps16
 go_wp2_with fail
 refine (Core_any w).mono ?_
 rintro e w1 ⟨xs, ao, cc, rfl, hxd, hxs, hcc, hb⟩
 have HX1 := Lib.hid (hxs.keeps above_to)
 have B1 := Lib.hid hb
 have HXD := Lib.hid hxd
 clear hxs hb hxd hcc
 go_wp2_with fail
 refine (RCore_any w1).mono ?_
 rintro e w2 ⟨ys, bo, cw, rfl, hyd, hys, hcw, hb⟩
 have HX := Lib.hid (HX1.out.below hb)
 have HY := Lib.hid (hys.keeps above_to)
 have B2 := Lib.hid (B1.out.trans (hb.mono B1.out.size))
 have HYD := Lib.hid hyd
 have HXY := Lib.hid (show xs.map XEl.d = ys.map XEl.d from HXD.out.trans hyd.symm)
 have hyl : ys.length = xs.length := by have := congrArg List.length HXY.out; rw [List.length_map, List.length_map] at this; exact this.symm
 have hxl : xs.length = 7 := by have := congrArg List.length HXD.out; rw [List.length_map] at this; exact this
 have hxi : (xs.length : Int) = 7 := by rw [hxl]; rfl
 have HYL := Lib.hid hyl
 have HXL := Lib.hid hxl
 rw [hyl]
 clear hyd hys hcw hb HX1 hyl hxl
 generalize hn : xs.length = n at hxi
 have HNX := Lib.hid hn
 clear hn
 go_wp2_with fail
 go_loopw [3] (fun iv wr => ∃ m : Nat, m ≤ n ∧ iv = .int .i64 m ∧ Hid (Below w2.heap.size w2 wr)) (fun iv _ => n - (intOf iv).toNat)
 case atStart => exact ⟨0, Nat.zero_le _, rfl, Below.refl _ _⟩
 case round =>
  obtain ⟨m, hmm, rfl, HB⟩ := hrel
  by_cases hlt : m < n
  ·skip
   have hgx := List.getElem?_eq_getElem (show m < xs.length by rw [HNX.out]; exact hlt)
   have hgy := List.getElem?_eq_getElem (show m < ys.length by rw [HYL.out, HNX.out]; exact hlt)
   generalize xs[m]'_ = x at hgx
   generalize ys[m]'_ = y at hgy
   obtain ⟨bk, o, hao, hcx⟩ := RowIs.at xel_len (RowIs.below HX.out.1 HB.out) hgx
   obtain ⟨bk', o', hbo, hcy⟩ := RowIs.at xel_len (RowIs.below HY.out.1 HB.out) hgy
   obtain ⟨e1, e2, e3⟩ := same_len HXY.out hgx hgy
   have hty : x.types = [] := core_types x.d (by rw [← HXD.out]; exact List.mem_map.2 ⟨x, List.mem_of_getElem? hgx, rfl⟩)
   have hol : y.ops.length = x.ops.length := by have := congrArg List.length e3; rw [List.length_map, List.length_map] at this; exact this.symm
   have k0 := hcx 0 (.string x.name) rfl
   have k1 := hcx 1 (.slice x.yo x.types.length x.yc) rfl
   have k2 := hcx 2 (.slice x.po x.ops.length x.pc) rfl
   have j0 := hcy 0 (.string y.name) rfl
   have j2 := hcy 2 (.slice y.po y.ops.length y.pc) rfl
   rw [Nat.add_zero] at k0 j0
   rw [← e1] at j0
   rw [hty] at k1
   rw [hol] at j2
   have HEX := Lib.hid (HX.out.2 x (List.mem_of_getElem? hgx)).ops
   have HEY := Lib.hid (HY.out.2 y (List.mem_of_getElem? hgy)).ops
   have HE3 := Lib.hid e3
   have HOL := Lib.hid hol
   have HSH := Lib.hid (core_shorts x.d (by rw [← HXD.out]; exact List.mem_map.2 ⟨x, List.mem_of_getElem? hgx, rfl⟩))
   have HLT := Lib.hid hlt
   have hlti : (m : Int) < (n : Int) := by omega
   have HX6 := Lib.hid (show x.ops.length ≤ 1000 from by
     have h : (coreD.all fun d => decide (d.ops.length ≤ 1000)) = true := by kernel_rfl
     have := List.all_eq_true.1 h x.d (by rw [← HXD.out]; exact List.mem_map.2 ⟨x, List.mem_of_getElem? hgx, rfl⟩)
     have e : x.d.ops = x.ops.map (·.d) := rfl
     rw [e, List.length_map] at this
     exact of_decide_eq_true this)
   have hoi : (x.ops.length : Int) ≤ 1000 := by have := HX6.out; omega
   obtain rfl := hao
   obtain rfl := hbo
   generalize x.name = nm at k0 j0
   have HK2 := Lib.hid k2
   have HJ2 := Lib.hid j2
   clear hcx hcy e1 e2 e3 hty hol hgx hgy hlt hmm
   go_upto_region 7 with fail
   go_quiet (fail)
   go_wp2_with fail
   clear k0 k1 k2 j0 j2
   go_loopw [4] (fun iv wx => ∃ k : Nat, k ≤ x.ops.length ∧ iv = .int .i64 k ∧ Hid (Below wr.heap.size wr wx)) (fun iv _ => x.ops.length - (intOf iv).toNat)
   case atStart => exact ⟨0, Nat.zero_le _, rfl, drawn_same (Below.refl _ _) _⟩
   case round =>
    obtain ⟨k, hkk, rfl, HBI⟩ := hrel
    have k2 := (HBI.out.cell (block_lt_of_cell HK2.out)).trans HK2.out
    by_cases hlk : k < x.ops.length
    ·skip
     have hgx := List.getElem?_eq_getElem hlk
     have hgy := List.getElem?_eq_getElem (show k < y.ops.length by rw [HOL.out]; exact hlk)
     generalize x.ops[k]'_ = ex at hgx
     generalize y.ops[k]'_ = ey at hgy
     have hdd : ey.d = ex.d := by
      have h1 : (x.ops.map (·.d))[k]? = some ex.d := by rw [List.getElem?_map, hgx]; rfl
      have h2 : (y.ops.map (·.d))[k]? = some ey.d := by rw [List.getElem?_map, hgy]; rfl
      rw [HE3.out, h2] at h1
      exact Option.some.inj h1
     have HBW := Lib.hid (HB.out.trans (HBI.out.mono HB.out.size))
     obtain ⟨pk, po, hpo, hcx⟩ := RowIs.at del_len (RowIs.below HEX.out.1 HBW.out) hgx
     obtain ⟨qk, qo, hqo, hcy⟩ := RowIs.at del_len (RowIs.below HEY.out.1 HBW.out) hgy
     have HOX := Lib.hid (HEX.out.2 ex (List.mem_of_getElem? hgx))
     have HOY := Lib.hid (HEY.out.2 ey (List.mem_of_getElem? hgy))
     have HSD := Lib.hid (HSH.out ex.d (List.mem_map.2 ⟨ex, List.mem_of_getElem? hgx, rfl⟩))
     have HCX := Lib.hid (fun (X : World) (h : Hid (Below wr.heap.size wr X)) => (show X.cell? ⟨pk, po + k * 7, none⟩ = some (.string ex.d.name) ∧ X.cell? ⟨pk, po + k * 7 + 1, none⟩ = some (.slice ex.io ex.d.ins.length ex.ic) ∧ X.cell? ⟨pk, po + k * 7 + 2, none⟩ = some (.slice ex.oo ex.d.outs.length ex.oc) ∧ X.cell? ⟨pk, po + k * 7 + 3, none⟩ = some (.slice ex.no ex.d.needs.length ex.nc) ∧ X.cell? ⟨pk, po + k * 7 + 4, none⟩ = some (.int .i64 ex.d.regions) ∧ X.cell? ⟨pk, po + k * 7 + 5, none⟩ = some (.int .i64 ex.d.succs) ∧ X.cell? ⟨pk, po + k * 7 + 6, none⟩ = some (.slice ex.ko ex.d.traits.length ex.kc) from
      have hc : ∀ {p : Addr} {v : Value}, wr.cell? p = some v → X.cell? p = some v := fun hx => (h.out.cell (block_lt_of_cell hx)).trans hx
      ⟨hc (hcx 0 _ rfl), hc (hcx 1 _ rfl), hc (hcx 2 _ rfl), hc (hcx 3 _ rfl), hc (hcx 4 _ rfl), hc (hcx 5 _ rfl), hc (hcx 6 _ rfl)⟩))
     have HCY := Lib.hid (fun (X : World) (h : Hid (Below wr.heap.size wr X)) => (show X.cell? ⟨qk, qo + k * 7, none⟩ = some (.string ey.d.name) ∧ X.cell? ⟨qk, qo + k * 7 + 1, none⟩ = some (.slice ey.io ey.d.ins.length ey.ic) ∧ X.cell? ⟨qk, qo + k * 7 + 2, none⟩ = some (.slice ey.oo ey.d.outs.length ey.oc) ∧ X.cell? ⟨qk, qo + k * 7 + 3, none⟩ = some (.slice ey.no ey.d.needs.length ey.nc) ∧ X.cell? ⟨qk, qo + k * 7 + 4, none⟩ = some (.int .i64 ey.d.regions) ∧ X.cell? ⟨qk, qo + k * 7 + 5, none⟩ = some (.int .i64 ey.d.succs) ∧ X.cell? ⟨qk, qo + k * 7 + 6, none⟩ = some (.slice ey.ko ey.d.traits.length ey.kc) from
      have hc : ∀ {p : Addr} {v : Value}, wr.cell? p = some v → X.cell? p = some v := fun hx => (h.out.cell (block_lt_of_cell hx)).trans hx
      ⟨hc (hcy 0 _ rfl), hc (hcy 1 _ rfl), hc (hcy 2 _ rfl), hc (hcy 3 _ rfl), hc (hcy 4 _ rfl), hc (hcy 5 _ rfl), hc (hcy 6 _ rfl)⟩))
     have HLK := Lib.hid hlk
     have hlki : (k : Int) < (x.ops.length : Int) := by omega
     have HDD := Lib.hid hdd
     have HPO := Lib.hid hpo
     have HQO := Lib.hid hqo
     clear hgx hgy hcx hcy hdd hlk hkk hpo hqo
     go_upto_region 12 with fail
     clear k2
     refine wp_region_held_drew (S := fun w' => Hid (Below wr.heap.size wr w')) (by kernel_rfl) (Below.refl _ _).drew (fun hHeld => ?_)
     generalize wr.drew = V0 at hHeld ⊢
     have HKK := Lib.hid (fun (X : World) (h : Hid (Below wr.heap.size wr X)) => (show X.cell? ⟨bk, o + m * 3 + 2, none⟩ = some (.slice (some ⟨pk, po, none⟩) x.ops.length x.pc) by rw [← HPO.out]; exact (h.out.cell (Nat.lt_of_lt_of_le (block_lt_of_cell HK2.out) HBI.out.size)).trans ((HBI.out.cell (block_lt_of_cell HK2.out)).trans HK2.out)))
     have HJJ := Lib.hid (fun (X : World) (h : Hid (Below wr.heap.size wr X)) => (show X.cell? ⟨bk', o' + m * 3 + 2, none⟩ = some (.slice (some ⟨qk, qo, none⟩) x.ops.length y.pc) by rw [← HQO.out]; exact (h.out.cell (Nat.lt_of_lt_of_le (block_lt_of_cell HJ2.out) HBI.out.size)).trans ((HBI.out.cell (block_lt_of_cell HJ2.out)).trans HJ2.out)))
     refine wpAnyH_take (i := 0) (v := .slice (some ⟨bk, o, none⟩) n cc) rfl (by kernel_rfl) (by kernel_rfl) (by kernel_rfl) (fun _ _ _ h => h) (Or.inl ⟨by rfl, ?_⟩) hHeld ?_
     ·intro w9 hSw
      go_simp
     simp only [Act.put, sA, sC, sD, sE, sF]
     refine wpAnyH_take (i := 1) (v := .int .i64 (m : Int)) rfl (by kernel_rfl) (by kernel_rfl) (by kernel_rfl) (fun _ _ _ h => h) (Or.inl ⟨by rfl, ?_⟩) hHeld ?_
     ·intro w9 hSw
      go_simp
     simp only [Act.put, sA, sB, sC, sD, sE, sF]
     refine wpAnyH_take (i := 2) (v := .pointer (some ⟨bk, o + m * 3, none⟩)) rfl (by kernel_rfl) (by kernel_rfl) (by kernel_rfl) (fun _ _ _ h => h) (Or.inl ⟨by rfl, ?_⟩) hHeld ?_
     ·intro w9 hSw
      go_simp
     simp only [Act.put, sA, sB, sC, sD, sE, sF]
     refine wpAnyH_take (i := 3) (v := .pointer (some ⟨bk, o + m * 3 + 2, none⟩)) rfl (by kernel_rfl) (by kernel_rfl) (by kernel_rfl) (fun _ _ _ h => h) (Or.inl ⟨by rfl, ?_⟩) hHeld ?_
     ·intro w9 hSw
      go_simp
     simp only [Act.put, sA, sB, sC, sD, sE, sF]
     refine wpAnyH_take (i := 4) (v := .slice (some ⟨pk, po, none⟩) x.ops.length x.pc) rfl (by kernel_rfl) (by kernel_rfl) (by kernel_rfl) (fun _ _ _ h => h) (Or.inl ⟨by rfl, ?_⟩) hHeld ?_
     ·intro w9 hSw
      have hcc := HKK.out w9 hSw
      go_simp
     simp only [Act.put, sA, sB, sC, sD, sE, sF]
     refine wpAnyH_take (i := 5) (v := .int .i64 (k : Int)) rfl (by kernel_rfl) (by kernel_rfl) (by kernel_rfl) (fun _ _ _ h => h) (Or.inl ⟨by rfl, ?_⟩) hHeld ?_
     ·intro w9 hSw
      go_simp
     simp only [Act.put, sA, sB, sC, sD, sE, sF]
     refine wpAnyH_take (i := 6) (v := .pointer (some ⟨pk, po + k * 7, none⟩)) rfl (by kernel_rfl) (by kernel_rfl) (by kernel_rfl) (fun _ _ _ h => h) (Or.inl ⟨by rfl, ?_⟩) hHeld ?_
     ·intro w9 hSw
      go_simp
     simp only [Act.put, sA, sB, sC, sD, sE, sF]
     refine wpAnyH_take (i := 7) (v := .agg #[.string ex.d.name, .slice ex.io ex.d.ins.length ex.ic, .slice ex.oo ex.d.outs.length ex.oc, .slice ex.no ex.d.needs.length ex.nc, .int .i64 ex.d.regions, .int .i64 ex.d.succs, .slice ex.ko ex.d.traits.length ex.kc]) rfl (by kernel_rfl) (by kernel_rfl) (by kernel_rfl) (fun _ _ _ h => h) (Or.inl ⟨by rfl, ?_⟩) hHeld ?_
     ·intro w9 hSw
      obtain ⟨y0, y1, y2, y3, y4, y5, y6⟩ := HCX.out w9 hSw
      go_simp
     simp only [Act.put, sA, sB, sC, sD, sE, sF]
     refine wpAnyH_take (i := 8) (v := .slice (some ⟨bk', o', none⟩) n cw) rfl (by kernel_rfl) (by kernel_rfl) (by kernel_rfl) (fun _ _ _ h => h) (Or.inl ⟨by rfl, ?_⟩) hHeld ?_
     ·intro w9 hSw
      go_simp
     simp only [Act.put, sA, sB, sC, sD, sE, sF]
     refine wpAnyH_take (i := 9) (v := .int .i64 (m : Int)) rfl (by kernel_rfl) (by kernel_rfl) (by kernel_rfl) (fun _ _ _ h => h) (Or.inl ⟨by rfl, ?_⟩) hHeld ?_
     ·intro w9 hSw
      go_simp
     simp only [Act.put, sA, sB, sC, sD, sE, sF]
     refine wpAnyH_take (i := 10) (v := .pointer (some ⟨bk', o' + m * 3, none⟩)) rfl (by kernel_rfl) (by kernel_rfl) (by kernel_rfl) (fun _ _ _ h => h) (Or.inl ⟨by rfl, ?_⟩) hHeld ?_
     ·intro w9 hSw
      go_simp
     simp only [Act.put, sA, sB, sC, sD, sE, sF]
     refine wpAnyH_take (i := 11) (v := .pointer (some ⟨bk', o' + m * 3 + 2, none⟩)) rfl (by kernel_rfl) (by kernel_rfl) (by kernel_rfl) (fun _ _ _ h => h) (Or.inl ⟨by rfl, ?_⟩) hHeld ?_
     ·intro w9 hSw
      go_simp
     simp only [Act.put, sA, sB, sC, sD, sE, sF]
     refine wpAnyH_take (i := 12) (v := .slice (some ⟨qk, qo, none⟩) x.ops.length y.pc) rfl (by kernel_rfl) (by kernel_rfl) (by kernel_rfl) (fun _ _ _ h => h) (Or.inl ⟨by rfl, ?_⟩) hHeld ?_
     ·intro w9 hSw
      have hcc := HJJ.out w9 hSw
      go_simp
     simp only [Act.put, sA, sB, sC, sD, sE, sF]
     refine wpAnyH_take (i := 13) (v := .int .i64 (k : Int)) rfl (by kernel_rfl) (by kernel_rfl) (by kernel_rfl) (fun _ _ _ h => h) (Or.inl ⟨by rfl, ?_⟩) hHeld ?_
     ·intro w9 hSw
      go_simp
     simp only [Act.put, sA, sB, sC, sD, sE, sF]
     refine wpAnyH_take (i := 14) (v := .pointer (some ⟨qk, qo + k * 7, none⟩)) rfl (by kernel_rfl) (by kernel_rfl) (by kernel_rfl) (fun _ _ _ h => h) (Or.inl ⟨by rfl, ?_⟩) hHeld ?_
     ·intro w9 hSw
      go_simp
     simp only [Act.put, sA, sB, sC, sD, sE, sF]
     refine wpAnyH_take (i := 15) (v := .agg #[.string ey.d.name, .slice ey.io ey.d.ins.length ey.ic, .slice ey.oo ey.d.outs.length ey.oc, .slice ey.no ey.d.needs.length ey.nc, .int .i64 ey.d.regions, .int .i64 ey.d.succs, .slice ey.ko ey.d.traits.length ey.kc]) rfl (by kernel_rfl) (by kernel_rfl) (by kernel_rfl) (fun _ _ _ h => h) (Or.inl ⟨by rfl, ?_⟩) hHeld ?_
     ·intro w9 hSw
      obtain ⟨y0, y1, y2, y3, y4, y5, y6⟩ := HCY.out w9 hSw
      go_simp
     simp only [Act.put, sA, sB, sC, sD, sE, sF]
     have HBV := Lib.hid (show Below w2.heap.size w2 V0 from HBW.out.trans (hHeld.out.mono HBW.out.size))
     have HCS := Lib.hid (sameDef_yes ex.d HSD.out ex.io ex.ic ex.oo ex.oc ex.no ex.nc ex.ko ex.kc ey.io ey.ic ey.oo ey.oc ey.no ey.nc ey.ko ey.kc V0 (HOX.out.below HBV.out) (by have := HOY.out.below HBV.out; obtain ⟨yd, a1, a2, a3, a4, a5, a6, a7, a8⟩ := ey; obtain rfl : yd = ex.d := HDD.out; exact this))
     rw [HDD.out]
     refine wpAnyH_ready (rs := [16]) (by kernel_rfl) (by simp) ?_
     refine AllReadyH.cons rfl (fun K hK => ?_) AllReadyH.nil
     go_simp
     go_at_call 21
     with_reducible refine HCS.out.mono ?_
     rintro e v1 ⟨rfl, hb⟩
     try dsimp only
     refine hK.out _ _ (show Hid (Below wr.heap.size wr v1) from hHeld.out.trans (hb.mono hHeld.out.size)) (fun h1 => ?_)
     clear hK K hb hHeld
     have hHeld := h1
     clear h1
     try simp only [Act.put, sA, sB, sC, sD, sE, sF]
     refine wpAnyH_take (i := 17) (v := .bool false) rfl (by kernel_rfl) (by kernel_rfl) (by kernel_rfl) (fun _ _ _ h => h) (Or.inl ⟨by rfl, ?_⟩) hHeld ?_
     ·intro w9 hSw
      go_simp
     simp only [Act.put, sA, sB, sC, sD, sE, sF]
     refine wpAnyH_done (by kernel_rfl) ?_ _
     go_wp2_with fail
     go_roundw
     case rel => exact ⟨k + 1, HLK.out, by go_num, HBI.out.trans (hHeld.out.mono HBI.out.size)⟩
     case measure => have := HLK.out; simp only [intOf]; omega
    have hge : ¬ (k : Int) < (x.ops.length : Int) := by omega
    clear hlk hkk
    go_wp2_with fail
    go_roundw
    case rel => exact ⟨m + 1, HLT.out, by go_num, HB.out.trans (HBI.out.mono HB.out.size)⟩
    case measure => have := HLT.out; simp only [intOf]; omega
  have hge : ¬ (m : Int) < (n : Int) := by omega
  have B3 := Lib.hid (B2.out.trans (HB.out.mono B2.out.size))
  clear hlt hmm HB
  go_wp2_with fail
  clear hge hxi
  refine (Find_any none [] 0 (by decide) (fun x h => by cases h) addS (by decide) wr ⟨.inl rfl, fun x h => by cases h⟩ (HE.out.below B3.out)).mono ?_
  rintro e w4 ⟨hb, (⟨hr, -⟩ | ⟨-, hd, -⟩ | ⟨-, y, hd, hyo, rfl⟩)⟩
  ·rw [show (List.map XEl.d []) = [] from rfl, right_nil] at hr; cases hr
  ·rw [show (List.map XEl.d []) = [] from rfl, defn_add] at hd; cases hd
  have HYD2 := Lib.hid (show y.d = addD by rw [show (List.map XEl.d []) = [] from rfl, defn_add] at hd; exact (Option.some.inj hd).symm)
  have HA := Lib.hid (heap_alloc_new w4 (.cells #[.string y.d.name, .slice y.io y.d.ins.length y.ic, .slice y.oo y.d.outs.length y.oc, .slice y.no y.d.needs.length y.nc, .int .i64 y.d.regions, .int .i64 y.d.succs, .slice y.ko y.d.traits.length y.kc] 36))
  have B4 := Lib.hid ((B3.out.trans (hb.mono B3.out.size)).trans ((new_below w4 (.cells #[.string y.d.name, .slice y.io y.d.ins.length y.ic, .slice y.oo y.d.outs.length y.oc, .slice y.no y.d.needs.length y.nc, .int .i64 y.d.regions, .int .i64 y.d.succs, .slice y.ko y.d.traits.length y.kc] 36)).mono (Nat.le_trans B3.out.size hb.size)))
  have HYO := Lib.hid (hyo.below (new_below w4 (.cells #[.string y.d.name, .slice y.io y.d.ins.length y.ic, .slice y.oo y.d.outs.length y.oc, .slice y.no y.d.needs.length y.nc, .int .i64 y.d.regions, .int .i64 y.d.succs, .slice y.ko y.d.traits.length y.kc] 36)))
  clear hb hd hyo
  unfold DEl.val
  go_upto_region 15 with fail
  generalize w4.alloc (.cells #[.string y.d.name, .slice y.io y.d.ins.length y.ic, .slice y.oo y.d.outs.length y.oc, .slice y.no y.d.needs.length y.nc, .int .i64 y.d.regions, .int .i64 y.d.succs, .slice y.ko y.d.traits.length y.kc] 36) = W5 at HA B4 HYO ⊢
  generalize w4.heap.size = a at HA ⊢
  go_wp2_with fail
  refine (Find_any none [] 0 (by decide) (fun x h => by cases h) loadS (by decide) W5 ⟨.inl rfl, fun x h => by cases h⟩ (HE.out.below B4.out)).mono ?_
  rintro e w6 ⟨hb, (⟨hr, -⟩ | ⟨-, hd, -⟩ | ⟨-, z, hd, hzo, rfl⟩)⟩
  ·rw [show (List.map XEl.d []) = [] from rfl, right_nil] at hr; cases hr
  ·rw [show (List.map XEl.d []) = [] from rfl, defn_load] at hd; cases hd
  have HZD := Lib.hid (show z.d = loadD by rw [show (List.map XEl.d []) = [] from rfl, defn_load] at hd; exact (Option.some.inj hd).symm)
  have HS := Lib.hid (show AwS w y z a w6.heap.size (w6.alloc (.cells #[.string z.d.name, .slice z.io z.d.ins.length z.ic, .slice z.oo z.d.outs.length z.oc, .slice z.no z.d.needs.length z.nc, .int .i64 z.d.regions, .int .i64 z.d.succs, .slice z.ko z.d.traits.length z.kc] 36)) from
   ⟨(B4.out.trans (hb.mono B4.out.size)).trans ((new_below w6 _).mono (Nat.le_trans B4.out.size hb.size)), ((new_below w6 _).block _ (Nat.lt_of_lt_of_le (lt_of_block HA.out) hb.size)).trans ((hb.block _ (lt_of_block HA.out)).trans HA.out), heap_alloc_new w6 _, (HYO.out.below hb).below (new_below w6 _), hzo.below (new_below w6 _)⟩)
  clear hb hd hzo HA B4 HYO
  unfold DEl.val
  go_upto_region 16 with fail
  generalize w6.alloc (.cells #[.string z.d.name, .slice z.io z.d.ins.length z.ic, .slice z.oo z.d.outs.length z.oc, .slice z.no z.d.needs.length z.nc, .int .i64 z.d.regions, .int .i64 z.d.succs, .slice z.ko z.d.traits.length z.kc] 36) = W7 at HS ⊢
  generalize w6.heap.size = b at HS ⊢
  obtain ⟨c0, c1, c2, c3, c4, c5, c6, cf⟩ := dcells7 HS.out.hb
  have HS2 := Lib.hid (HS.out.moved (new_below W7 (.cells #[.string ⟨#[109, 101, 109, 60, 52, 120, 51, 120, 105, 56, 62]⟩, .string ⟨#[105, 110, 100, 101, 120]⟩, .string ⟨#[105, 110, 100, 101, 120]⟩] 9)))
  have HI := Lib.hid (Infer_any z (by rw [HZD.out]; exact fit_load) (some ⟨W7.heap.size, 0, none⟩) [memT, indexS, indexS] 3 (by decide) (fun s hs => by simp only [List.mem_cons, List.not_mem_nil, or_false] at hs; rcases hs with rfl | rfl | rfl <;> decide) (W7.alloc (.cells #[.string ⟨#[109, 101, 109, 60, 52, 120, 51, 120, 105, 56, 62]⟩, .string ⟨#[105, 110, 100, 101, 120]⟩, .string ⟨#[105, 110, 100, 101, 120]⟩] 9)) HS2.out.oz (strs_lit [memT, indexS, indexS]) (HE.out.below HS2.out.below))
  rw [HZD.out, infer1] at HI
  unfold DEl.val at HI
  go_wp2_with fail
  refine HI.out.mono ?_
  rintro e w8 ⟨hb, ro3, rc3, rfl, hst, hrc⟩
  have HR1 := Lib.hid (strs_keeps hst above_to)
  replace HS := Lib.hid (HS2.out.moved hb)
  clear hb hst hrc HI HS2 c0 c1 c2 c3 c4 c5 c6 cf
  obtain ⟨c0, c1, c2, c3, c4, c5, c6, cf⟩ := dcells7 HS.out.hb
  go_upto_region 17 with fail
  have HS2 := Lib.hid (HS.out.moved (new_below w8 (.cells #[.string ⟨#[109, 101, 109, 60, 52, 120, 51, 120, 105, 56, 62]⟩, .string ⟨#[105, 110, 100, 101, 120]⟩] 9)))
  have HI := Lib.hid (Infer_any z (by rw [HZD.out]; exact fit_load) (some ⟨w8.heap.size, 0, none⟩) [memT, indexS] 2 (by decide) (fun s hs => by simp only [List.mem_cons, List.not_mem_nil, or_false] at hs; rcases hs with rfl | rfl <;> decide) (w8.alloc (.cells #[.string ⟨#[109, 101, 109, 60, 52, 120, 51, 120, 105, 56, 62]⟩, .string ⟨#[105, 110, 100, 101, 120]⟩] 9)) HS2.out.oz (strs_lit [memT, indexS]) (HE.out.below HS2.out.below))
  rw [HZD.out, infer2] at HI
  unfold DEl.val at HI
  go_wp2_with fail
  refine HI.out.mono ?_
  rintro e w9 ⟨hb, ro2, rc2, rfl, hst, hrc⟩
  replace HR1 := Lib.hid ((HR1.out.below (new_below w8 (.cells #[.string ⟨#[109, 101, 109, 60, 52, 120, 51, 120, 105, 56, 62]⟩, .string ⟨#[105, 110, 100, 101, 120]⟩] 9))).below hb)
  replace HS := Lib.hid (HS2.out.moved hb)
  clear hb hst hrc HI HS2 c0 c1 c2 c3 c4 c5 c6 cf
  go_upto_region 18 with fail
  obtain ⟨q, hq⟩ : ∃ q, ro3 = some q := by
   rcases HR1.out with h | ⟨q, h, _⟩
   ·cases h
   ·exact ⟨q, h⟩
  subst hq
  have hq0 : w9.cell? q = some (.string ⟨#[105, 56]⟩) := strs_at (m := 0) HR1.out rfl
  obtain ⟨c0, c1, c2, c3, c4, c5, c6, cf⟩ := dcells7 HS.out.ha
  have HS2 := Lib.hid ((HS.out.moved (new_below w9 (.cells #[.string ⟨#[105, 51, 50]⟩, .string ⟨#[105, 51, 50]⟩] 9))).moved (new_below _ (.cells #[.string ⟨#[105, 51, 50]⟩] 9)))
  have HI := Lib.hid (Match_any y (by rw [HYD2.out]; exact fit_add) (some ⟨w9.heap.size, 0, none⟩) (some ⟨w9.heap.size + 1, 0, none⟩) [i32T, i32T] [i32T] 2 1 (by decide) (by decide) (fun s hs => by simp only [List.mem_cons, List.not_mem_nil, or_false] at hs; rcases hs with rfl | rfl <;> decide) (fun s hs => by simp only [List.mem_cons, List.not_mem_nil, or_false] at hs; rcases hs with rfl <;> decide) ((w9.alloc (.cells #[.string ⟨#[105, 51, 50]⟩, .string ⟨#[105, 51, 50]⟩] 9)).alloc (.cells #[.string ⟨#[105, 51, 50]⟩] 9)) HS2.out.oy ((strs_lit [i32T, i32T]).below (new_below _ _)) (by have := strs_lit (w := w9.alloc (.cells #[.string ⟨#[105, 51, 50]⟩, .string ⟨#[105, 51, 50]⟩] 9)) (T := 9) [i32T]; rw [show (w9.alloc (.cells #[.string ⟨#[105, 51, 50]⟩, .string ⟨#[105, 51, 50]⟩] 9)).heap.size = w9.heap.size + 1 by simp] at this; exact this) (HE.out.below HS2.out.below))
  rw [HYD2.out, match1] at HI
  unfold DEl.val at HI
  go_wp2_with fail
  refine HI.out.mono ?_
  rintro e w10 ⟨rfl, hb⟩
  replace HS := Lib.hid (HS2.out.moved hb)
  clear hb HI HS2 c0 c1 c2 c3 c4 c5 c6 cf
  obtain ⟨c0, c1, c2, c3, c4, c5, c6, cf⟩ := dcells7 HS.out.ha
  have HS2 := Lib.hid ((HS.out.moved (new_below w10 (.cells #[.string ⟨#[105, 51, 50]⟩, .string ⟨#[105, 54, 52]⟩] 9))).moved (new_below _ (.cells #[.string ⟨#[105, 51, 50]⟩] 9)))
  have HI := Lib.hid (Match_any y (by rw [HYD2.out]; exact fit_add) (some ⟨w10.heap.size, 0, none⟩) (some ⟨w10.heap.size + 1, 0, none⟩) [i32T, i64T] [i32T] 2 1 (by decide) (by decide) (fun s hs => by simp only [List.mem_cons, List.not_mem_nil, or_false] at hs; rcases hs with rfl | rfl <;> decide) (fun s hs => by simp only [List.mem_cons, List.not_mem_nil, or_false] at hs; rcases hs with rfl <;> decide) ((w10.alloc (.cells #[.string ⟨#[105, 51, 50]⟩, .string ⟨#[105, 54, 52]⟩] 9)).alloc (.cells #[.string ⟨#[105, 51, 50]⟩] 9)) HS2.out.oy ((strs_lit [i32T, i64T]).below (new_below _ _)) (by have := strs_lit (w := w10.alloc (.cells #[.string ⟨#[105, 51, 50]⟩, .string ⟨#[105, 54, 52]⟩] 9)) (T := 9) [i32T]; rw [show (w10.alloc (.cells #[.string ⟨#[105, 51, 50]⟩, .string ⟨#[105, 54, 52]⟩] 9)).heap.size = w10.heap.size + 1 by simp] at this; exact this) (HE.out.below HS2.out.below))
  rw [HYD2.out, match2] at HI
  unfold DEl.val at HI
  go_wp2_with fail
  refine HI.out.mono ?_
  rintro e w11 ⟨rfl, hb⟩
  replace HS := Lib.hid (HS2.out.moved hb)
  clear hb HI HS2 c0 c1 c2 c3 c4 c5 c6 cf
  obtain ⟨c0, c1, c2, c3, c4, c5, c6, cf⟩ := dcells7 HS.out.ha
  have HS2 := Lib.hid ((HS.out.moved (new_below w11 (.cells #[.string ⟨#[105, 51, 50]⟩] 9))).moved (new_below _ (.cells #[.string ⟨#[105, 51, 50]⟩] 9)))
  have HI := Lib.hid (Match_any y (by rw [HYD2.out]; exact fit_add) (some ⟨w11.heap.size, 0, none⟩) (some ⟨w11.heap.size + 1, 0, none⟩) [i32T] [i32T] 1 1 (by decide) (by decide) (fun s hs => by simp only [List.mem_cons, List.not_mem_nil, or_false] at hs; rcases hs with rfl <;> decide) (fun s hs => by simp only [List.mem_cons, List.not_mem_nil, or_false] at hs; rcases hs with rfl <;> decide) ((w11.alloc (.cells #[.string ⟨#[105, 51, 50]⟩] 9)).alloc (.cells #[.string ⟨#[105, 51, 50]⟩] 9)) HS2.out.oy ((strs_lit [i32T]).below (new_below _ _)) (by have := strs_lit (w := w11.alloc (.cells #[.string ⟨#[105, 51, 50]⟩] 9)) (T := 9) [i32T]; rw [show (w11.alloc (.cells #[.string ⟨#[105, 51, 50]⟩] 9)).heap.size = w11.heap.size + 1 by simp] at this; exact this) (HE.out.below HS2.out.below))
  rw [HYD2.out, match3] at HI
  unfold DEl.val at HI
  go_wp2_with fail
  refine HI.out.mono ?_
  rintro e w12 ⟨rfl, hb⟩
  replace HS := Lib.hid (HS2.out.moved hb)
  clear hb HI HS2 c0 c1 c2 c3 c4 c5 c6 cf
  go_wp2_with fail
  go_ret
  exact ⟨rfl, HS.out.below⟩
end Go.Proofs.YtgimdkgjfenafaaGreatDoor
