import Derived.Test.YtgimdkgjfenafaaGreatDoorCG08
import Derived.Test.YtgimdkgjfenafaaGreatDoorCG20
import Derived.Deep.RegionHeld3
import Derived.BigRegion
namespace Go.Proofs.YtgimdkgjfenafaaGreatDoor
open Go.RowKit
def nthB (ns : List ByteArray) (i : Nat) : ByteArray := ns[i]?.getD ByteArray.empty
def riseAt (ns : List ByteArray) (i : Nat) : Bool := i == 0 || Op.bytesLess (nthB ns (i - 1)).toList (nthB ns i).toList
def risingL (ns : List ByteArray) : Bool := (List.range ns.length).all (riseAt ns)
theorem risingL_yes {ns : List ByteArray} {n : Nat} (hn : n = ns.length) (h : ∀ k, k < n → riseAt ns k = true) : risingL ns = true := by
 subst hn
 exact List.all_eq_true.2 fun k hk => h k (List.mem_range.1 hk)
theorem risingL_no {ns : List ByteArray} {k : Nat} (hk : k < ns.length) (h : riseAt ns k = false) : risingL ns = false := List.all_eq_false.2 ⟨k, List.mem_range.2 hk, by rw [h]; decide⟩
theorem riseAt_at {ns : List ByteArray} {p : Nat} {x y : ByteArray} {b : Bool} (hx : ns[p]? = some x) (hy : ns[p + 1]? = some y) (h : Op.bytesLess x.toList y.toList = b) : riseAt ns (p + 1) = b := by
 unfold riseAt nthB
 rw [show p + 1 - 1 = p from rfl, hx, hy]
 simpa using h
theorem xel_len (x : XEl) : x.cells.length = 3 := rfl
theorem del_len (x : DEl) : x.cells.length = 7 := rfl
set_option maxHeartbeats 400000 in
theorem itself_any (s : ByteArray) (w : World) : Calls Tryz.prog 114 #[.string s] w fun e w' => e = .returned (.string s) ∧ w = w' := by
 go_enter Tryz.func114, Tryz.ntmps114
 go_wp2_with fail
 go_ret
 exact ⟨rfl, rfl⟩
set_option maxHeartbeats 400000 in
theorem nameOfDef_any (nm : ByteArray) (v1 v2 v3 v4 v5 v6 : Value) (w : World) : Calls Tryz.prog 80 #[.agg #[.string nm, v1, v2, v3, v4, v5, v6]] w fun e w' => e = .returned (.string nm) ∧ Below w.heap.size w w' := by
 go_enter Tryz.func80, Tryz.ntmps80
 go_wp2_with fail
 go_ret
 exact ⟨rfl, (Below.refl _ w).alloc (Nat.le_refl _) _⟩
set_option maxHeartbeats 8000000 in
set_option maxRecDepth 100000 in
theorem areRisingDef_any (ao : Option Addr) (es : List DEl) (c : Nat) (hn : es.length ≤ 9223372036854775807) (w : World) (h : RowIs w ao es.length (es.flatMap DEl.cells)) :
  Calls Tryz.prog 115 #[.slice ao es.length c, .func (.func 80) #[] #[]] w fun e w' => e = .returned (.bool (risingL (es.map (fun x : DEl => x.d.name)))) ∧ Below w.heap.size w w' := by
 have H := Lib.hid h
 have hni : (es.length : Int) ≤ 9223372036854775807 := by omega
 clear h hn
 go_enter Tryz.func115, Tryz.ntmps115
 go_wp2_with fail
 go_loopw [8] (fun i wr => ∃ m : Nat, m ≤ es.length ∧ i = .int .i64 m ∧ Hid ((∀ k, k < m → riseAt (es.map (fun x : DEl => x.d.name)) k = true) ∧ Below w.heap.size w wr)) (fun i _ => es.length - (intOf i).toNat)
 case atStart => exact ⟨0, Nat.zero_le _, rfl, fun k hk => absurd hk (Nat.not_lt_zero _), Below.refl _ _⟩
 case round =>
  obtain ⟨m, hm, rfl, HA⟩ := hrel
  by_cases hlt : m < es.length
  rotate_left
  ·have hge : ¬ (m : Int) < (es.length : Int) := by omega
   have HY := Lib.hid (risingL_yes (ns := es.map (fun x : DEl => x.d.name)) (n := m) (by rw [List.length_map]; omega) HA.out.1)
   clear hlt hm
   go_wp2_with fail
   go_ret
   exact ⟨by rw [HY.out]; rfl, HA.out.2⟩
  have HLT := Lib.hid hlt
  have hlti : (m : Int) < (es.length : Int) := by omega
  by_cases h0 : m = 0
  ·subst h0
   have hz : decide ((0 : Int) < ((0 : Nat) : Int)) = false := rfl
   have HG := Lib.hid (show ∀ k, k < 0 + 1 → riseAt (es.map (fun x : DEl => x.d.name)) k = true from fun k hk => by obtain rfl : k = 0 := (by omega); rfl)
   clear hlt hm
   go_wp2_with fail
   go_quiet (fail)
   go_wp2_with fail
   go_roundw
   case rel => exact ⟨0 + 1, HLT.out, rfl, HG.out, drawn_same HA.out.2 _⟩
   case measure => have := HLT.out; simp only [intOf]; omega
  obtain ⟨p, hpm⟩ : ∃ p, m = p + 1 := ⟨m - 1, by omega⟩
  have HPM := Lib.hid hpm
  have hp0 : 0 < m := by omega
  have hpl : (p : Int) < (es.length : Int) := by omega
  have hpg := List.getElem?_eq_getElem (show p < es.length by omega)
  have hgx := hpg
  clear hpg
  have hgy := List.getElem?_eq_getElem hlt
  generalize es[p]'(by omega) = x at hgx
  generalize es[m]'hlt = y at hgy
  obtain ⟨bk, o, e1, hx⟩ := RowIs.at del_len (H.out.below HA.out.2) hgx
  obtain ⟨bk', o', e2, hy⟩ := RowIs.at del_len (H.out.below HA.out.2) hgy
  rw [e1] at e2
  cases e2
  obtain rfl : ao = _ := e1
  have HSD : wr.drew.cell? ⟨bk, o + p * 7, none⟩ = some (.string x.d.name) ∧ wr.drew.cell? ⟨bk, o + p * 7 + 1, none⟩ = some (.slice x.io x.d.ins.length x.ic) ∧ wr.drew.cell? ⟨bk, o + p * 7 + 2, none⟩ = some (.slice x.oo x.d.outs.length x.oc) ∧ wr.drew.cell? ⟨bk, o + p * 7 + 3, none⟩ = some (.slice x.no x.d.needs.length x.nc) ∧ wr.drew.cell? ⟨bk, o + p * 7 + 4, none⟩ = some (.int .i64 x.d.regions) ∧ wr.drew.cell? ⟨bk, o + p * 7 + 5, none⟩ = some (.int .i64 x.d.succs) ∧ wr.drew.cell? ⟨bk, o + p * 7 + 6, none⟩ = some (.slice x.ko x.d.traits.length x.kc) ∧ wr.drew.cell? ⟨bk, o + m * 7, none⟩ = some (.string y.d.name) ∧ wr.drew.cell? ⟨bk, o + m * 7 + 1, none⟩ = some (.slice y.io y.d.ins.length y.ic) ∧ wr.drew.cell? ⟨bk, o + m * 7 + 2, none⟩ = some (.slice y.oo y.d.outs.length y.oc) ∧ wr.drew.cell? ⟨bk, o + m * 7 + 3, none⟩ = some (.slice y.no y.d.needs.length y.nc) ∧ wr.drew.cell? ⟨bk, o + m * 7 + 4, none⟩ = some (.int .i64 y.d.regions) ∧ wr.drew.cell? ⟨bk, o + m * 7 + 5, none⟩ = some (.int .i64 y.d.succs) ∧ wr.drew.cell? ⟨bk, o + m * 7 + 6, none⟩ = some (.slice y.ko y.d.traits.length y.kc) ∧ Hid (Below wr.heap.size wr wr.drew) := ⟨hx 0 _ rfl, hx 1 _ rfl, hx 2 _ rfl, hx 3 _ rfl, hx 4 _ rfl, hx 5 _ rfl, hx 6 _ rfl, hy 0 _ rfl, hy 1 _ rfl, hy 2 _ rfl, hy 3 _ rfl, hy 4 _ rfl, hy 5 _ rfl, hy 6 _ rfl, (Below.refl wr.heap.size wr).drew⟩
  have HST := Lib.hid (show ∀ X Y, (X.cell? ⟨bk, o + p * 7, none⟩ = some (.string x.d.name) ∧ X.cell? ⟨bk, o + p * 7 + 1, none⟩ = some (.slice x.io x.d.ins.length x.ic) ∧ X.cell? ⟨bk, o + p * 7 + 2, none⟩ = some (.slice x.oo x.d.outs.length x.oc) ∧ X.cell? ⟨bk, o + p * 7 + 3, none⟩ = some (.slice x.no x.d.needs.length x.nc) ∧ X.cell? ⟨bk, o + p * 7 + 4, none⟩ = some (.int .i64 x.d.regions) ∧ X.cell? ⟨bk, o + p * 7 + 5, none⟩ = some (.int .i64 x.d.succs) ∧ X.cell? ⟨bk, o + p * 7 + 6, none⟩ = some (.slice x.ko x.d.traits.length x.kc) ∧ X.cell? ⟨bk, o + m * 7, none⟩ = some (.string y.d.name) ∧ X.cell? ⟨bk, o + m * 7 + 1, none⟩ = some (.slice y.io y.d.ins.length y.ic) ∧ X.cell? ⟨bk, o + m * 7 + 2, none⟩ = some (.slice y.oo y.d.outs.length y.oc) ∧ X.cell? ⟨bk, o + m * 7 + 3, none⟩ = some (.slice y.no y.d.needs.length y.nc) ∧ X.cell? ⟨bk, o + m * 7 + 4, none⟩ = some (.int .i64 y.d.regions) ∧ X.cell? ⟨bk, o + m * 7 + 5, none⟩ = some (.int .i64 y.d.succs) ∧ X.cell? ⟨bk, o + m * 7 + 6, none⟩ = some (.slice y.ko y.d.traits.length y.kc) ∧ Hid (Below wr.heap.size wr X)) → Below X.heap.size X Y → (Y.cell? ⟨bk, o + p * 7, none⟩ = some (.string x.d.name) ∧ Y.cell? ⟨bk, o + p * 7 + 1, none⟩ = some (.slice x.io x.d.ins.length x.ic) ∧ Y.cell? ⟨bk, o + p * 7 + 2, none⟩ = some (.slice x.oo x.d.outs.length x.oc) ∧ Y.cell? ⟨bk, o + p * 7 + 3, none⟩ = some (.slice x.no x.d.needs.length x.nc) ∧ Y.cell? ⟨bk, o + p * 7 + 4, none⟩ = some (.int .i64 x.d.regions) ∧ Y.cell? ⟨bk, o + p * 7 + 5, none⟩ = some (.int .i64 x.d.succs) ∧ Y.cell? ⟨bk, o + p * 7 + 6, none⟩ = some (.slice x.ko x.d.traits.length x.kc) ∧ Y.cell? ⟨bk, o + m * 7, none⟩ = some (.string y.d.name) ∧ Y.cell? ⟨bk, o + m * 7 + 1, none⟩ = some (.slice y.io y.d.ins.length y.ic) ∧ Y.cell? ⟨bk, o + m * 7 + 2, none⟩ = some (.slice y.oo y.d.outs.length y.oc) ∧ Y.cell? ⟨bk, o + m * 7 + 3, none⟩ = some (.slice y.no y.d.needs.length y.nc) ∧ Y.cell? ⟨bk, o + m * 7 + 4, none⟩ = some (.int .i64 y.d.regions) ∧ Y.cell? ⟨bk, o + m * 7 + 5, none⟩ = some (.int .i64 y.d.succs) ∧ Y.cell? ⟨bk, o + m * 7 + 6, none⟩ = some (.slice y.ko y.d.traits.length y.kc) ∧ Hid (Below wr.heap.size wr Y)) from fun X Y h hb => by
   obtain ⟨h0, h1, h2, h3, h4, h5, h6, h7, h8, h9, h10, h11, h12, h13, hB⟩ := h
   have hc : ∀ {x : Addr} {v : Value}, X.cell? x = some v → Y.cell? x = some v := fun hx => (hb.cell (block_lt_of_cell hx)).trans hx
   exact ⟨hc h0, hc h1, hc h2, hc h3, hc h4, hc h5, hc h6, hc h7, hc h8, hc h9, hc h10, hc h11, hc h12, hc h13, hB.out.trans (hb.mono hB.out.size)⟩)
  have HBB := Lib.hid (show ∀ X, (X.cell? ⟨bk, o + p * 7, none⟩ = some (.string x.d.name) ∧ X.cell? ⟨bk, o + p * 7 + 1, none⟩ = some (.slice x.io x.d.ins.length x.ic) ∧ X.cell? ⟨bk, o + p * 7 + 2, none⟩ = some (.slice x.oo x.d.outs.length x.oc) ∧ X.cell? ⟨bk, o + p * 7 + 3, none⟩ = some (.slice x.no x.d.needs.length x.nc) ∧ X.cell? ⟨bk, o + p * 7 + 4, none⟩ = some (.int .i64 x.d.regions) ∧ X.cell? ⟨bk, o + p * 7 + 5, none⟩ = some (.int .i64 x.d.succs) ∧ X.cell? ⟨bk, o + p * 7 + 6, none⟩ = some (.slice x.ko x.d.traits.length x.kc) ∧ X.cell? ⟨bk, o + m * 7, none⟩ = some (.string y.d.name) ∧ X.cell? ⟨bk, o + m * 7 + 1, none⟩ = some (.slice y.io y.d.ins.length y.ic) ∧ X.cell? ⟨bk, o + m * 7 + 2, none⟩ = some (.slice y.oo y.d.outs.length y.oc) ∧ X.cell? ⟨bk, o + m * 7 + 3, none⟩ = some (.slice y.no y.d.needs.length y.nc) ∧ X.cell? ⟨bk, o + m * 7 + 4, none⟩ = some (.int .i64 y.d.regions) ∧ X.cell? ⟨bk, o + m * 7 + 5, none⟩ = some (.int .i64 y.d.succs) ∧ X.cell? ⟨bk, o + m * 7 + 6, none⟩ = some (.slice y.ko y.d.traits.length y.kc) ∧ Hid (Below wr.heap.size wr X)) → Below wr.heap.size wr X from fun X h => h.2.2.2.2.2.2.2.2.2.2.2.2.2.2.out)
  have HX := Lib.hid (show (es.map (fun x : DEl => x.d.name))[p]? = some x.d.name by rw [List.getElem?_map, hgx]; rfl)
  have HY := Lib.hid (show (es.map (fun x : DEl => x.d.name))[p + 1]? = some y.d.name by rw [← hpm, List.getElem?_map, hgy]; rfl)
  have q1 : IntKind.i64.wrap ((m : Int) - 1) = (p : Int) := by rw [IntKind.wrap_i64]; omega
  clear hx hy hgx hgy hlt hm h0 hpm
  cases hls : Op.bytesLess x.d.name.toList y.d.name.toList with
  | false =>
   have HF := Lib.hid (risingL_no (ns := es.map (fun x : DEl => x.d.name)) (by rw [List.length_map]; have := HLT.out; have := HPM.out; omega) (riseAt_at HX.out HY.out hls))
   go_wp2_with fail
   go_region_held3 (fun w' => w'.cell? ⟨bk, o + p * 7, none⟩ = some (.string x.d.name) ∧ w'.cell? ⟨bk, o + p * 7 + 1, none⟩ = some (.slice x.io x.d.ins.length x.ic) ∧ w'.cell? ⟨bk, o + p * 7 + 2, none⟩ = some (.slice x.oo x.d.outs.length x.oc) ∧ w'.cell? ⟨bk, o + p * 7 + 3, none⟩ = some (.slice x.no x.d.needs.length x.nc) ∧ w'.cell? ⟨bk, o + p * 7 + 4, none⟩ = some (.int .i64 x.d.regions) ∧ w'.cell? ⟨bk, o + p * 7 + 5, none⟩ = some (.int .i64 x.d.succs) ∧ w'.cell? ⟨bk, o + p * 7 + 6, none⟩ = some (.slice x.ko x.d.traits.length x.kc) ∧ w'.cell? ⟨bk, o + m * 7, none⟩ = some (.string y.d.name) ∧ w'.cell? ⟨bk, o + m * 7 + 1, none⟩ = some (.slice y.io y.d.ins.length y.ic) ∧ w'.cell? ⟨bk, o + m * 7 + 2, none⟩ = some (.slice y.oo y.d.outs.length y.oc) ∧ w'.cell? ⟨bk, o + m * 7 + 3, none⟩ = some (.slice y.no y.d.needs.length y.nc) ∧ w'.cell? ⟨bk, o + m * 7 + 4, none⟩ = some (.int .i64 y.d.regions) ∧ w'.cell? ⟨bk, o + m * 7 + 5, none⟩ = some (.int .i64 y.d.succs) ∧ w'.cell? ⟨bk, o + m * 7 + 6, none⟩ = some (.slice y.ko y.d.traits.length y.kc) ∧ Hid (Below wr.heap.size wr w')) (first | exact HSD | assumption | exact HST.out _ _ (by assumption) (by assumption))
    (first | (go_at_call 80; with_reducible refine (nameOfDef_any _ _ _ _ _ _ _ _).mono ?_; rintro e w' ⟨rfl, hb⟩))
   all_goals
    have BX := Lib.hid (HBB.out _ (by assumption))
    go_wp2_with fail
    go_ret
    exact ⟨by rw [HF.out]; rfl, HA.out.2.trans (BX.out.mono HA.out.2.size)⟩
  | true =>
   have HT := Lib.hid (show ∀ k, k < m + 1 → riseAt (es.map (fun x : DEl => x.d.name)) k = true from fun k hk => by rcases Nat.lt_or_ge k m with h | h; exact HA.out.1 k h; rw [show k = m by omega, HPM.out]; exact riseAt_at HX.out HY.out hls)
   go_wp2_with fail
   go_region_held3 (fun w' => w'.cell? ⟨bk, o + p * 7, none⟩ = some (.string x.d.name) ∧ w'.cell? ⟨bk, o + p * 7 + 1, none⟩ = some (.slice x.io x.d.ins.length x.ic) ∧ w'.cell? ⟨bk, o + p * 7 + 2, none⟩ = some (.slice x.oo x.d.outs.length x.oc) ∧ w'.cell? ⟨bk, o + p * 7 + 3, none⟩ = some (.slice x.no x.d.needs.length x.nc) ∧ w'.cell? ⟨bk, o + p * 7 + 4, none⟩ = some (.int .i64 x.d.regions) ∧ w'.cell? ⟨bk, o + p * 7 + 5, none⟩ = some (.int .i64 x.d.succs) ∧ w'.cell? ⟨bk, o + p * 7 + 6, none⟩ = some (.slice x.ko x.d.traits.length x.kc) ∧ w'.cell? ⟨bk, o + m * 7, none⟩ = some (.string y.d.name) ∧ w'.cell? ⟨bk, o + m * 7 + 1, none⟩ = some (.slice y.io y.d.ins.length y.ic) ∧ w'.cell? ⟨bk, o + m * 7 + 2, none⟩ = some (.slice y.oo y.d.outs.length y.oc) ∧ w'.cell? ⟨bk, o + m * 7 + 3, none⟩ = some (.slice y.no y.d.needs.length y.nc) ∧ w'.cell? ⟨bk, o + m * 7 + 4, none⟩ = some (.int .i64 y.d.regions) ∧ w'.cell? ⟨bk, o + m * 7 + 5, none⟩ = some (.int .i64 y.d.succs) ∧ w'.cell? ⟨bk, o + m * 7 + 6, none⟩ = some (.slice y.ko y.d.traits.length y.kc) ∧ Hid (Below wr.heap.size wr w')) (first | exact HSD | assumption | exact HST.out _ _ (by assumption) (by assumption))
    (first | (go_at_call 80; with_reducible refine (nameOfDef_any _ _ _ _ _ _ _ _).mono ?_; rintro e w' ⟨rfl, hb⟩))
   all_goals
    have BX := Lib.hid (HBB.out _ (by assumption))
    go_wp2_with fail
    go_roundw
    case rel => exact ⟨m + 1, HLT.out, by go_num, HT.out, HA.out.2.trans (BX.out.mono HA.out.2.size)⟩
    case measure => have := HLT.out; simp only [intOf]; omega
set_option maxHeartbeats 400000 in
theorem nameOfDialect_any (nm : ByteArray) (v1 v2 : Value) (w : World) : Calls Tryz.prog 69 #[.agg #[.string nm, v1, v2]] w fun e w' => e = .returned (.string nm) ∧ Below w.heap.size w w' := by
 go_enter Tryz.func69, Tryz.ntmps69
 go_wp2_with fail
 go_ret
 exact ⟨rfl, (Below.refl _ w).alloc (Nat.le_refl _) _⟩
set_option maxHeartbeats 8000000 in
set_option maxRecDepth 100000 in
theorem areRisingDialect_any (ao : Option Addr) (es : List XEl) (c : Nat) (hn : es.length ≤ 9223372036854775807) (w : World) (h : RowIs w ao es.length (es.flatMap XEl.cells)) :
  Calls Tryz.prog 68 #[.slice ao es.length c, .func (.func 69) #[] #[]] w fun e w' => e = .returned (.bool (risingL (es.map (fun x : XEl => x.name)))) ∧ Below w.heap.size w w' := by
 have H := Lib.hid h
 have hni : (es.length : Int) ≤ 9223372036854775807 := by omega
 clear h hn
 go_enter Tryz.func68, Tryz.ntmps68
 go_wp2_with fail
 go_loopw [8] (fun i wr => ∃ m : Nat, m ≤ es.length ∧ i = .int .i64 m ∧ Hid ((∀ k, k < m → riseAt (es.map (fun x : XEl => x.name)) k = true) ∧ Below w.heap.size w wr)) (fun i _ => es.length - (intOf i).toNat)
 case atStart => exact ⟨0, Nat.zero_le _, rfl, fun k hk => absurd hk (Nat.not_lt_zero _), Below.refl _ _⟩
 case round =>
  obtain ⟨m, hm, rfl, HA⟩ := hrel
  by_cases hlt : m < es.length
  rotate_left
  ·have hge : ¬ (m : Int) < (es.length : Int) := by omega
   have HY := Lib.hid (risingL_yes (ns := es.map (fun x : XEl => x.name)) (n := m) (by rw [List.length_map]; omega) HA.out.1)
   clear hlt hm
   go_wp2_with fail
   go_ret
   exact ⟨by rw [HY.out]; rfl, HA.out.2⟩
  have HLT := Lib.hid hlt
  have hlti : (m : Int) < (es.length : Int) := by omega
  by_cases h0 : m = 0
  ·subst h0
   have hz : decide ((0 : Int) < ((0 : Nat) : Int)) = false := rfl
   have HG := Lib.hid (show ∀ k, k < 0 + 1 → riseAt (es.map (fun x : XEl => x.name)) k = true from fun k hk => by obtain rfl : k = 0 := (by omega); rfl)
   clear hlt hm
   go_wp2_with fail
   go_quiet (fail)
   go_wp2_with fail
   go_roundw
   case rel => exact ⟨0 + 1, HLT.out, rfl, HG.out, drawn_same HA.out.2 _⟩
   case measure => have := HLT.out; simp only [intOf]; omega
  obtain ⟨p, hpm⟩ : ∃ p, m = p + 1 := ⟨m - 1, by omega⟩
  have HPM := Lib.hid hpm
  have hp0 : 0 < m := by omega
  have hpl : (p : Int) < (es.length : Int) := by omega
  have hpg := List.getElem?_eq_getElem (show p < es.length by omega)
  have hgx := hpg
  clear hpg
  have hgy := List.getElem?_eq_getElem hlt
  generalize es[p]'(by omega) = x at hgx
  generalize es[m]'hlt = y at hgy
  obtain ⟨bk, o, e1, hx⟩ := RowIs.at xel_len (H.out.below HA.out.2) hgx
  obtain ⟨bk', o', e2, hy⟩ := RowIs.at xel_len (H.out.below HA.out.2) hgy
  rw [e1] at e2
  cases e2
  obtain rfl : ao = _ := e1
  have HSD : wr.drew.cell? ⟨bk, o + p * 3, none⟩ = some (.string x.name) ∧ wr.drew.cell? ⟨bk, o + p * 3 + 1, none⟩ = some (.slice x.yo x.types.length x.yc) ∧ wr.drew.cell? ⟨bk, o + p * 3 + 2, none⟩ = some (.slice x.po x.ops.length x.pc) ∧ wr.drew.cell? ⟨bk, o + m * 3, none⟩ = some (.string y.name) ∧ wr.drew.cell? ⟨bk, o + m * 3 + 1, none⟩ = some (.slice y.yo y.types.length y.yc) ∧ wr.drew.cell? ⟨bk, o + m * 3 + 2, none⟩ = some (.slice y.po y.ops.length y.pc) ∧ Hid (Below wr.heap.size wr wr.drew) := ⟨hx 0 _ rfl, hx 1 _ rfl, hx 2 _ rfl, hy 0 _ rfl, hy 1 _ rfl, hy 2 _ rfl, (Below.refl wr.heap.size wr).drew⟩
  have HST := Lib.hid (show ∀ X Y, (X.cell? ⟨bk, o + p * 3, none⟩ = some (.string x.name) ∧ X.cell? ⟨bk, o + p * 3 + 1, none⟩ = some (.slice x.yo x.types.length x.yc) ∧ X.cell? ⟨bk, o + p * 3 + 2, none⟩ = some (.slice x.po x.ops.length x.pc) ∧ X.cell? ⟨bk, o + m * 3, none⟩ = some (.string y.name) ∧ X.cell? ⟨bk, o + m * 3 + 1, none⟩ = some (.slice y.yo y.types.length y.yc) ∧ X.cell? ⟨bk, o + m * 3 + 2, none⟩ = some (.slice y.po y.ops.length y.pc) ∧ Hid (Below wr.heap.size wr X)) → Below X.heap.size X Y → (Y.cell? ⟨bk, o + p * 3, none⟩ = some (.string x.name) ∧ Y.cell? ⟨bk, o + p * 3 + 1, none⟩ = some (.slice x.yo x.types.length x.yc) ∧ Y.cell? ⟨bk, o + p * 3 + 2, none⟩ = some (.slice x.po x.ops.length x.pc) ∧ Y.cell? ⟨bk, o + m * 3, none⟩ = some (.string y.name) ∧ Y.cell? ⟨bk, o + m * 3 + 1, none⟩ = some (.slice y.yo y.types.length y.yc) ∧ Y.cell? ⟨bk, o + m * 3 + 2, none⟩ = some (.slice y.po y.ops.length y.pc) ∧ Hid (Below wr.heap.size wr Y)) from fun X Y h hb => by
   obtain ⟨h0, h1, h2, h3, h4, h5, hB⟩ := h
   have hc : ∀ {x : Addr} {v : Value}, X.cell? x = some v → Y.cell? x = some v := fun hx => (hb.cell (block_lt_of_cell hx)).trans hx
   exact ⟨hc h0, hc h1, hc h2, hc h3, hc h4, hc h5, hB.out.trans (hb.mono hB.out.size)⟩)
  have HBB := Lib.hid (show ∀ X, (X.cell? ⟨bk, o + p * 3, none⟩ = some (.string x.name) ∧ X.cell? ⟨bk, o + p * 3 + 1, none⟩ = some (.slice x.yo x.types.length x.yc) ∧ X.cell? ⟨bk, o + p * 3 + 2, none⟩ = some (.slice x.po x.ops.length x.pc) ∧ X.cell? ⟨bk, o + m * 3, none⟩ = some (.string y.name) ∧ X.cell? ⟨bk, o + m * 3 + 1, none⟩ = some (.slice y.yo y.types.length y.yc) ∧ X.cell? ⟨bk, o + m * 3 + 2, none⟩ = some (.slice y.po y.ops.length y.pc) ∧ Hid (Below wr.heap.size wr X)) → Below wr.heap.size wr X from fun X h => h.2.2.2.2.2.2.out)
  have HX := Lib.hid (show (es.map (fun x : XEl => x.name))[p]? = some x.name by rw [List.getElem?_map, hgx]; rfl)
  have HY := Lib.hid (show (es.map (fun x : XEl => x.name))[p + 1]? = some y.name by rw [← hpm, List.getElem?_map, hgy]; rfl)
  have q1 : IntKind.i64.wrap ((m : Int) - 1) = (p : Int) := by rw [IntKind.wrap_i64]; omega
  clear hx hy hgx hgy hlt hm h0 hpm
  cases hls : Op.bytesLess x.name.toList y.name.toList with
  | false =>
   have HF := Lib.hid (risingL_no (ns := es.map (fun x : XEl => x.name)) (by rw [List.length_map]; have := HLT.out; have := HPM.out; omega) (riseAt_at HX.out HY.out hls))
   go_wp2_with fail
   go_region_held3 (fun w' => w'.cell? ⟨bk, o + p * 3, none⟩ = some (.string x.name) ∧ w'.cell? ⟨bk, o + p * 3 + 1, none⟩ = some (.slice x.yo x.types.length x.yc) ∧ w'.cell? ⟨bk, o + p * 3 + 2, none⟩ = some (.slice x.po x.ops.length x.pc) ∧ w'.cell? ⟨bk, o + m * 3, none⟩ = some (.string y.name) ∧ w'.cell? ⟨bk, o + m * 3 + 1, none⟩ = some (.slice y.yo y.types.length y.yc) ∧ w'.cell? ⟨bk, o + m * 3 + 2, none⟩ = some (.slice y.po y.ops.length y.pc) ∧ Hid (Below wr.heap.size wr w')) (first | exact HSD | assumption | exact HST.out _ _ (by assumption) (by assumption))
    (first | (go_at_call 69; with_reducible refine (nameOfDialect_any _ _ _ _).mono ?_; rintro e w' ⟨rfl, hb⟩))
   all_goals
    have BX := Lib.hid (HBB.out _ (by assumption))
    go_wp2_with fail
    go_ret
    exact ⟨by rw [HF.out]; rfl, HA.out.2.trans (BX.out.mono HA.out.2.size)⟩
  | true =>
   have HT := Lib.hid (show ∀ k, k < m + 1 → riseAt (es.map (fun x : XEl => x.name)) k = true from fun k hk => by rcases Nat.lt_or_ge k m with h | h; exact HA.out.1 k h; rw [show k = m by omega, HPM.out]; exact riseAt_at HX.out HY.out hls)
   go_wp2_with fail
   go_region_held3 (fun w' => w'.cell? ⟨bk, o + p * 3, none⟩ = some (.string x.name) ∧ w'.cell? ⟨bk, o + p * 3 + 1, none⟩ = some (.slice x.yo x.types.length x.yc) ∧ w'.cell? ⟨bk, o + p * 3 + 2, none⟩ = some (.slice x.po x.ops.length x.pc) ∧ w'.cell? ⟨bk, o + m * 3, none⟩ = some (.string y.name) ∧ w'.cell? ⟨bk, o + m * 3 + 1, none⟩ = some (.slice y.yo y.types.length y.yc) ∧ w'.cell? ⟨bk, o + m * 3 + 2, none⟩ = some (.slice y.po y.ops.length y.pc) ∧ Hid (Below wr.heap.size wr w')) (first | exact HSD | assumption | exact HST.out _ _ (by assumption) (by assumption))
    (first | (go_at_call 69; with_reducible refine (nameOfDialect_any _ _ _ _).mono ?_; rintro e w' ⟨rfl, hb⟩))
   all_goals
    have BX := Lib.hid (HBB.out _ (by assumption))
    go_wp2_with fail
    go_roundw
    case rel => exact ⟨m + 1, HLT.out, by go_num, HT.out, HA.out.2.trans (BX.out.mono HA.out.2.size)⟩
    case measure => have := HLT.out; simp only [intOf]; omega
set_option maxHeartbeats 400000 in
theorem nameOfNeed_any (nm : ByteArray) (v1 : Value) (w : World) : Calls Tryz.prog 96 #[.agg #[.string nm, v1]] w fun e w' => e = .returned (.string nm) ∧ Below w.heap.size w w' := by
 go_enter Tryz.func96, Tryz.ntmps96
 go_wp2_with fail
 go_ret
 exact ⟨rfl, (Below.refl _ w).alloc (Nat.le_refl _) _⟩
set_option maxHeartbeats 8000000 in
set_option maxRecDepth 100000 in
theorem areRisingNeed_any (ao : Option Addr) (es : List NeedD) (c : Nat) (hn : es.length ≤ 9223372036854775807) (w : World) (h : RowIs w ao es.length (es.flatMap NeedD.cells)) :
  Calls Tryz.prog 152 #[.slice ao es.length c, .func (.func 96) #[] #[]] w fun e w' => e = .returned (.bool (risingL (es.map (fun x : NeedD => x.name)))) ∧ Below w.heap.size w w' := by
 have H := Lib.hid h
 have hni : (es.length : Int) ≤ 9223372036854775807 := by omega
 clear h hn
 go_enter Tryz.func152, Tryz.ntmps152
 go_wp2_with fail
 go_loopw [8] (fun i wr => ∃ m : Nat, m ≤ es.length ∧ i = .int .i64 m ∧ Hid ((∀ k, k < m → riseAt (es.map (fun x : NeedD => x.name)) k = true) ∧ Below w.heap.size w wr)) (fun i _ => es.length - (intOf i).toNat)
 case atStart => exact ⟨0, Nat.zero_le _, rfl, fun k hk => absurd hk (Nat.not_lt_zero _), Below.refl _ _⟩
 case round =>
  obtain ⟨m, hm, rfl, HA⟩ := hrel
  by_cases hlt : m < es.length
  rotate_left
  ·have hge : ¬ (m : Int) < (es.length : Int) := by omega
   have HY := Lib.hid (risingL_yes (ns := es.map (fun x : NeedD => x.name)) (n := m) (by rw [List.length_map]; omega) HA.out.1)
   clear hlt hm
   go_wp2_with fail
   go_ret
   exact ⟨by rw [HY.out]; rfl, HA.out.2⟩
  have HLT := Lib.hid hlt
  have hlti : (m : Int) < (es.length : Int) := by omega
  by_cases h0 : m = 0
  ·subst h0
   have hz : decide ((0 : Int) < ((0 : Nat) : Int)) = false := rfl
   have HG := Lib.hid (show ∀ k, k < 0 + 1 → riseAt (es.map (fun x : NeedD => x.name)) k = true from fun k hk => by obtain rfl : k = 0 := (by omega); rfl)
   clear hlt hm
   go_wp2_with fail
   go_quiet (fail)
   go_wp2_with fail
   go_roundw
   case rel => exact ⟨0 + 1, HLT.out, rfl, HG.out, drawn_same HA.out.2 _⟩
   case measure => have := HLT.out; simp only [intOf]; omega
  obtain ⟨p, hpm⟩ : ∃ p, m = p + 1 := ⟨m - 1, by omega⟩
  have HPM := Lib.hid hpm
  have hp0 : 0 < m := by omega
  have hpl : (p : Int) < (es.length : Int) := by omega
  have hpg := List.getElem?_eq_getElem (show p < es.length by omega)
  have hgx := hpg
  clear hpg
  have hgy := List.getElem?_eq_getElem hlt
  generalize es[p]'(by omega) = x at hgx
  generalize es[m]'hlt = y at hgy
  obtain ⟨bk, o, e1, hx⟩ := RowIs.at need_len (H.out.below HA.out.2) hgx
  obtain ⟨bk', o', e2, hy⟩ := RowIs.at need_len (H.out.below HA.out.2) hgy
  rw [e1] at e2
  cases e2
  obtain rfl : ao = _ := e1
  have HSD : wr.drew.cell? ⟨bk, o + p * 2, none⟩ = some (.string x.name) ∧ wr.drew.cell? ⟨bk, o + p * 2 + 1, none⟩ = some (.int .i64 x.kind) ∧ wr.drew.cell? ⟨bk, o + m * 2, none⟩ = some (.string y.name) ∧ wr.drew.cell? ⟨bk, o + m * 2 + 1, none⟩ = some (.int .i64 y.kind) ∧ Hid (Below wr.heap.size wr wr.drew) := ⟨hx 0 _ rfl, hx 1 _ rfl, hy 0 _ rfl, hy 1 _ rfl, (Below.refl wr.heap.size wr).drew⟩
  have HST := Lib.hid (show ∀ X Y, (X.cell? ⟨bk, o + p * 2, none⟩ = some (.string x.name) ∧ X.cell? ⟨bk, o + p * 2 + 1, none⟩ = some (.int .i64 x.kind) ∧ X.cell? ⟨bk, o + m * 2, none⟩ = some (.string y.name) ∧ X.cell? ⟨bk, o + m * 2 + 1, none⟩ = some (.int .i64 y.kind) ∧ Hid (Below wr.heap.size wr X)) → Below X.heap.size X Y → (Y.cell? ⟨bk, o + p * 2, none⟩ = some (.string x.name) ∧ Y.cell? ⟨bk, o + p * 2 + 1, none⟩ = some (.int .i64 x.kind) ∧ Y.cell? ⟨bk, o + m * 2, none⟩ = some (.string y.name) ∧ Y.cell? ⟨bk, o + m * 2 + 1, none⟩ = some (.int .i64 y.kind) ∧ Hid (Below wr.heap.size wr Y)) from fun X Y h hb => by
   obtain ⟨h0, h1, h2, h3, hB⟩ := h
   have hc : ∀ {x : Addr} {v : Value}, X.cell? x = some v → Y.cell? x = some v := fun hx => (hb.cell (block_lt_of_cell hx)).trans hx
   exact ⟨hc h0, hc h1, hc h2, hc h3, hB.out.trans (hb.mono hB.out.size)⟩)
  have HBB := Lib.hid (show ∀ X, (X.cell? ⟨bk, o + p * 2, none⟩ = some (.string x.name) ∧ X.cell? ⟨bk, o + p * 2 + 1, none⟩ = some (.int .i64 x.kind) ∧ X.cell? ⟨bk, o + m * 2, none⟩ = some (.string y.name) ∧ X.cell? ⟨bk, o + m * 2 + 1, none⟩ = some (.int .i64 y.kind) ∧ Hid (Below wr.heap.size wr X)) → Below wr.heap.size wr X from fun X h => h.2.2.2.2.out)
  have HX := Lib.hid (show (es.map (fun x : NeedD => x.name))[p]? = some x.name by rw [List.getElem?_map, hgx]; rfl)
  have HY := Lib.hid (show (es.map (fun x : NeedD => x.name))[p + 1]? = some y.name by rw [← hpm, List.getElem?_map, hgy]; rfl)
  have q1 : IntKind.i64.wrap ((m : Int) - 1) = (p : Int) := by rw [IntKind.wrap_i64]; omega
  clear hx hy hgx hgy hlt hm h0 hpm
  cases hls : Op.bytesLess x.name.toList y.name.toList with
  | false =>
   have HF := Lib.hid (risingL_no (ns := es.map (fun x : NeedD => x.name)) (by rw [List.length_map]; have := HLT.out; have := HPM.out; omega) (riseAt_at HX.out HY.out hls))
   go_wp2_with fail
   go_region_held3 (fun w' => w'.cell? ⟨bk, o + p * 2, none⟩ = some (.string x.name) ∧ w'.cell? ⟨bk, o + p * 2 + 1, none⟩ = some (.int .i64 x.kind) ∧ w'.cell? ⟨bk, o + m * 2, none⟩ = some (.string y.name) ∧ w'.cell? ⟨bk, o + m * 2 + 1, none⟩ = some (.int .i64 y.kind) ∧ Hid (Below wr.heap.size wr w')) (first | exact HSD | assumption | exact HST.out _ _ (by assumption) (by assumption))
    (first | (go_at_call 96; with_reducible refine (nameOfNeed_any _ _ _).mono ?_; rintro e w' ⟨rfl, hb⟩))
   all_goals
    have BX := Lib.hid (HBB.out _ (by assumption))
    go_wp2_with fail
    go_ret
    exact ⟨by rw [HF.out]; rfl, HA.out.2.trans (BX.out.mono HA.out.2.size)⟩
  | true =>
   have HT := Lib.hid (show ∀ k, k < m + 1 → riseAt (es.map (fun x : NeedD => x.name)) k = true from fun k hk => by rcases Nat.lt_or_ge k m with h | h; exact HA.out.1 k h; rw [show k = m by omega, HPM.out]; exact riseAt_at HX.out HY.out hls)
   go_wp2_with fail
   go_region_held3 (fun w' => w'.cell? ⟨bk, o + p * 2, none⟩ = some (.string x.name) ∧ w'.cell? ⟨bk, o + p * 2 + 1, none⟩ = some (.int .i64 x.kind) ∧ w'.cell? ⟨bk, o + m * 2, none⟩ = some (.string y.name) ∧ w'.cell? ⟨bk, o + m * 2 + 1, none⟩ = some (.int .i64 y.kind) ∧ Hid (Below wr.heap.size wr w')) (first | exact HSD | assumption | exact HST.out _ _ (by assumption) (by assumption))
    (first | (go_at_call 96; with_reducible refine (nameOfNeed_any _ _ _).mono ?_; rintro e w' ⟨rfl, hb⟩))
   all_goals
    have BX := Lib.hid (HBB.out _ (by assumption))
    go_wp2_with fail
    go_roundw
    case rel => exact ⟨m + 1, HLT.out, by go_num, HT.out, HA.out.2.trans (BX.out.mono HA.out.2.size)⟩
    case measure => have := HLT.out; simp only [intOf]; omega
set_option maxHeartbeats 4000000 in
set_option maxRecDepth 100000 in
theorem areRisingStr_any (ao : Option Addr) (es : List ByteArray) (c : Nat) (hn : es.length ≤ 9223372036854775807) (w : World) (h : StrsAt w ao es) :
  Calls Tryz.prog 113 #[.slice ao es.length c, .func (.func 114) #[] #[]] w fun e w' => e = .returned (.bool (risingL es)) ∧ Below w.heap.size w w' := by
 have H := Lib.hid h
 have hni : (es.length : Int) ≤ 9223372036854775807 := by omega
 clear h hn
 go_enter Tryz.func113, Tryz.ntmps113
 go_wp2_with fail
 go_loopw [8] (fun i wr => ∃ m : Nat, m ≤ es.length ∧ i = .int .i64 m ∧ Hid ((∀ k, k < m → riseAt es k = true) ∧ Below w.heap.size w wr)) (fun i _ => es.length - (intOf i).toNat)
 case atStart => exact ⟨0, Nat.zero_le _, rfl, fun k hk => absurd hk (Nat.not_lt_zero _), Below.refl _ _⟩
 case round =>
  obtain ⟨m, hm, rfl, HA⟩ := hrel
  by_cases hlt : m < es.length
  rotate_left
  ·have hge : ¬ (m : Int) < (es.length : Int) := by omega
   have HY := Lib.hid (risingL_yes (ns := es) (n := m) (by omega) HA.out.1)
   clear hlt hm
   go_wp2_with fail
   go_ret
   exact ⟨by rw [HY.out]; rfl, HA.out.2⟩
  have HLT := Lib.hid hlt
  have hlti : (m : Int) < (es.length : Int) := by omega
  by_cases h0 : m = 0
  ·subst h0
   have hz : decide ((0 : Int) < ((0 : Nat) : Int)) = false := rfl
   have HG := Lib.hid (show ∀ k, k < 0 + 1 → riseAt es k = true from fun k hk => by obtain rfl : k = 0 := (by omega); rfl)
   clear hlt hm
   go_wp2_with fail
   go_quiet (fail)
   go_wp2_with fail
   go_roundw
   case rel => exact ⟨0 + 1, HLT.out, rfl, HG.out, drawn_same HA.out.2 _⟩
   case measure => have := HLT.out; simp only [intOf]; omega
  obtain ⟨p, hpm⟩ : ∃ p, m = p + 1 := ⟨m - 1, by omega⟩
  have HPM := Lib.hid hpm
  have hp0 : 0 < m := by omega
  have hpl : (p : Int) < (es.length : Int) := by omega
  rcases H.out.below HA.out.2 with h00 | ⟨a, rfl, hc⟩
  ·rw [h00] at hlt; exact absurd hlt (Nat.not_lt_zero _)
  have k1 := hc p (by omega)
  have k2 := hc m hlt
  have HX := Lib.hid (show es[p]? = some (es[p]?.getD ByteArray.empty) by rw [List.getElem?_eq_getElem (show p < es.length by omega)]; rfl)
  have HY := Lib.hid (show es[p + 1]? = some (es[m]?.getD ByteArray.empty) by rw [← hpm, List.getElem?_eq_getElem hlt]; rfl)
  generalize es[p]?.getD ByteArray.empty = x at k1 HX
  generalize es[m]?.getD ByteArray.empty = y at k2 HY
  have q1 : IntKind.i64.wrap ((m : Int) - 1) = (p : Int) := by rw [IntKind.wrap_i64]; omega
  clear hc hlt hm h0 hpm
  cases hls : Op.bytesLess x.toList y.toList with
  | false =>
   have HF := Lib.hid (risingL_no (ns := es) (by have := HLT.out; have := HPM.out; omega) (riseAt_at HX.out HY.out hls))
   go_wp2_with fail
   go_quiet ((go_at_call 114; exact Calls.quiet_of_same ((itself_any _ _).mono fun _ _ h => ⟨h.1, h.2.symm⟩)))
   go_wp2_with fail
   go_ret
   exact ⟨by rw [HF.out]; rfl, drawn_same HA.out.2 _⟩
  | true =>
   have HT := Lib.hid (show ∀ k, k < m + 1 → riseAt es k = true from fun k hk => by rcases Nat.lt_or_ge k m with h | h; exact HA.out.1 k h; rw [show k = m by omega, HPM.out]; exact riseAt_at HX.out HY.out hls)
   go_wp2_with fail
   go_quiet ((go_at_call 114; exact Calls.quiet_of_same ((itself_any _ _).mono fun _ _ h => ⟨h.1, h.2.symm⟩)))
   go_wp2_with fail
   go_roundw
   case rel => exact ⟨m + 1, HLT.out, by go_num, HT.out, drawn_same HA.out.2 _⟩
   case measure => have := HLT.out; simp only [intOf]; omega
end Go.Proofs.YtgimdkgjfenafaaGreatDoor
