import Derived.Test.YtgimdkgjfenafaaGreatDoorCG08
import Derived.Test.YtgimdkgjfenafaaGreatDoorCG19
import Derived.Deep.Cut
import Derived.Deep.DeepCutAuto
namespace Go.Proofs.YtgimdkgjfenafaaGreatDoor
open Go.RowKit
set_option maxHeartbeats 1000000 in
theorem same_strs (a1 a2 : Option Addr) (ss : List ByteArray) (c1 c2 : Nat) (hn : ss.length ≤ 9223372036854775807) (w : World) (h1 : StrsAt w a1 ss) (h2 : StrsAt w a2 ss) :
  Calls Tryz.prog 17 #[.slice a1 ss.length c1, .slice a2 ss.length c2] w fun e w' => e = .returned (.bool true) ∧ Below w.heap.size w w' := by
 have H1 := Lib.hid h1
 have H2 := Lib.hid h2
 clear h1 h2
 go_enter Tryz.func17, Tryz.ntmps17
 go_wp2_with fail
 go_loopw [5] (fun i wr => ∃ m : Nat, m ≤ ss.length ∧ i = .int .i64 m ∧ Hid (Below w.heap.size w wr)) (fun i _ => ss.length - (intOf i).toNat)
 case atStart => exact ⟨0, Nat.zero_le _, rfl, Below.refl _ _⟩
 case round =>
  obtain ⟨m, hm, rfl, HB⟩ := hrel
  by_cases hlt : m < ss.length
  ·rcases H1.out.below HB.out with h0 | ⟨a, rfl, hc⟩
   ·rw [h0] at hlt; exact absurd hlt (Nat.not_lt_zero _)
   rcases H2.out.below HB.out with h0 | ⟨a', rfl, hc'⟩
   ·rw [h0] at hlt; exact absurd hlt (Nat.not_lt_zero _)
   have hcm := hc m hlt
   have hcm' := hc' m hlt
   clear hc hc'
   obtain ⟨z, hz⟩ : ∃ z, z = ss[m]?.getD ByteArray.empty := ⟨_, rfl⟩
   rw [← hz] at hcm hcm'
   clear hz
   go_wp2_with fail
   go_quiet (fail)
   go_wp2_with fail
   go_roundw
   case rel => exact ⟨m + 1, by omega, by go_num, drawn_same HB.out _⟩
   case measure => simp [intOf]; omega
  ·obtain rfl : m = ss.length := by omega
   go_wp2_with fail
   go_ret
   exact ⟨rfl, HB.out⟩
theorem fst_block (w : World) (o o' : Obj) : ((w.alloc o).alloc o').heap[w.heap.size]? = some o := (((Below.refl _ _).alloc (Nat.le_refl _) o').block _ (by simp)).trans (heap_alloc_new w o)
theorem snd_block (w : World) (o o' : Obj) : ((w.alloc o).alloc o').heap[w.heap.size + 1]? = some o' := by
 have := heap_alloc_new (w.alloc o) o'
 rw [show (w.alloc o).heap.size = w.heap.size + 1 by simp] at this
 exact this
theorem bel_two (w : World) (o o' : Obj) : Below w.heap.size w ((w.alloc o).alloc o') := ((Below.refl _ w).alloc (Nat.le_refl _) _).alloc (by simp) _
theorem need_len (n : NeedD) : n.cells.length = 2 := rfl
theorem NeedsAt.at {w : World} {ao : Option Addr} {ns : List NeedD} (h : NeedsAt w ao ns) {j : Nat} (hj : j < ns.length) : ∃ bk o, ao = some ⟨bk, o, none⟩ ∧ w.cell? ⟨bk, o + j * 2, none⟩ = some (.string ns[j].name) ∧ w.cell? ⟨bk, o + j * 2 + 1, none⟩ = some (.int .i64 ns[j].kind) := by
 obtain ⟨bk, o, e, hc⟩ := RowIs.at need_len h (List.getElem?_eq_getElem hj)
 exact ⟨bk, o, e, hc 0 _ rfl, hc 1 _ rfl⟩
structure DefShort (d : DefD) : Prop where
 ins : d.ins.length ≤ 1000000
 outs : d.outs.length ≤ 1000000
 needs : d.needs.length ≤ 1000000
 traits : d.traits.length ≤ 1000000
theorem dcells7f {w : World} {b : Nat} {T : TypeId} {v0 v1 v2 v3 v4 v5 v6 : Value} (h : w.heap[b]? = some (.cells #[v0, v1, v2, v3, v4, v5, v6] T (0, 0))) :
  w.cell? ⟨b, 0, none⟩ = some v0 ∧ w.cell? ⟨b, 1, none⟩ = some v1 ∧ w.cell? ⟨b, 2, none⟩ = some v2 ∧ w.cell? ⟨b, 3, none⟩ = some v3 ∧ w.cell? ⟨b, 4, none⟩ = some v4 ∧ w.cell? ⟨b, 5, none⟩ = some v5 ∧ w.cell? ⟨b, 6, none⟩ = some v6 := by
 refine ⟨?_, ?_, ?_, ?_, ?_, ?_, ?_⟩ <;> simp [World.cell?, h]
set_option maxHeartbeats 8000000 in
set_option maxRecDepth 100000 in
theorem sameDef_yes (d : DefD) (hs : DefShort d) (io : Option Addr) (ic : Nat) (oo : Option Addr) (oc : Nat) (no : Option Addr) (nc : Nat) (ko : Option Addr) (kc : Nat) (jio : Option Addr) (jic : Nat) (joo : Option Addr) (joc : Nat) (jno : Option Addr) (jnc : Nat) (jko : Option Addr) (jkc : Nat)
  (w : World) (h1 : DefOK w ⟨d, io, ic, oo, oc, no, nc, ko, kc⟩) (h2 : DefOK w ⟨d, jio, jic, joo, joc, jno, jnc, jko, jkc⟩) :
  Calls Tryz.prog 21 #[.agg #[.string d.name, .slice io d.ins.length ic, .slice oo d.outs.length oc, .slice no d.needs.length nc, .int .i64 d.regions, .int .i64 d.succs, .slice ko d.traits.length kc], .agg #[.string d.name, .slice jio d.ins.length jic, .slice joo d.outs.length joc, .slice jno d.needs.length jnc, .int .i64 d.regions, .int .i64 d.succs, .slice jko d.traits.length jkc]] w fun e w' => e = .returned (.bool true) ∧ Below w.heap.size w w' := by
 have H1 := Lib.hid h1
 have H2 := Lib.hid h2
 have HS := Lib.hid hs
 clear h1 h2 hs
 obtain ⟨W2, hW2⟩ : ∃ W2, W2 = (w.alloc (.cells #[.string d.name, .slice io d.ins.length ic, .slice oo d.outs.length oc, .slice no d.needs.length nc, .int .i64 d.regions, .int .i64 d.succs, .slice ko d.traits.length kc] 36)).alloc (.cells #[.string d.name, .slice jio d.ins.length jic, .slice joo d.outs.length joc, .slice jno d.needs.length jnc, .int .i64 d.regions, .int .i64 d.succs, .slice jko d.traits.length jkc] 41) := ⟨_, rfl⟩
 have T0 : Hid (W2.heap[w.heap.size]? = some (.cells #[.string d.name, .slice io d.ins.length ic, .slice oo d.outs.length oc, .slice no d.needs.length nc, .int .i64 d.regions, .int .i64 d.succs, .slice ko d.traits.length kc] 36 (0, 0))) := by show W2.heap[_]? = _; rw [hW2]; exact fst_block _ _ _
 have T1 : Hid (W2.heap[w.heap.size + 1]? = some (.cells #[.string d.name, .slice jio d.ins.length jic, .slice joo d.outs.length joc, .slice jno d.needs.length jnc, .int .i64 d.regions, .int .i64 d.succs, .slice jko d.traits.length jkc] 41 (0, 0))) := by show W2.heap[_]? = _; rw [hW2]; exact snd_block _ _ _
 have B2 : Hid (Below w.heap.size w W2) := by show Below _ _ _; rw [hW2]; exact bel_two _ _ _
 go_enter Tryz.func21, Tryz.ntmps21
 go_upto_region 1 with fail
 rw [← hW2]
 clear hW2
 obtain ⟨c0, c1, c2, c3, c4, c5, c6⟩ := dcells7f T0.out
 obtain ⟨d0, d1, d2, d3, d4, d5, d6⟩ := dcells7f T1.out
 go_wp2_with fail
 refine (same_strs io jio d.ins ic jic (Nat.le_trans HS.out.ins (by decide)) W2 (H1.out.ins.below B2.out) (H2.out.ins.below B2.out)).mono ?_
 rintro e w3 ⟨rfl, hb⟩
 have T0' := Lib.hid ((hb.block _ (lt_of_block T0.out)).trans T0.out)
 have T1' := Lib.hid ((hb.block _ (lt_of_block T1.out)).trans T1.out)
 have B2' := Lib.hid (B2.out.trans (hb.mono B2.out.size))
 clear c0 c1 c2 c3 c4 c5 c6 d0 d1 d2 d3 d4 d5 d6 T0 T1 B2 hb
 have T0 := T0'
 have T1 := T1'
 have B2 := B2'
 clear T0' T1' B2'
 obtain ⟨c0, c1, c2, c3, c4, c5, c6⟩ := dcells7f T0.out
 obtain ⟨d0, d1, d2, d3, d4, d5, d6⟩ := dcells7f T1.out
 go_wp2_with fail
 refine (same_strs oo joo d.outs oc joc (Nat.le_trans HS.out.outs (by decide)) w3 (H1.out.outs.below B2.out) (H2.out.outs.below B2.out)).mono ?_
 rintro e w4 ⟨rfl, hb⟩
 have T0' := Lib.hid ((hb.block _ (lt_of_block T0.out)).trans T0.out)
 have T1' := Lib.hid ((hb.block _ (lt_of_block T1.out)).trans T1.out)
 have B2' := Lib.hid (B2.out.trans (hb.mono B2.out.size))
 clear c0 c1 c2 c3 c4 c5 c6 d0 d1 d2 d3 d4 d5 d6 T0 T1 B2 hb
 have T0 := T0'
 have T1 := T1'
 have B2 := B2'
 clear T0' T1' B2'
 obtain ⟨c0, c1, c2, c3, c4, c5, c6⟩ := dcells7f T0.out
 obtain ⟨d0, d1, d2, d3, d4, d5, d6⟩ := dcells7f T1.out
 go_wp2_with fail
 refine (same_strs ko jko d.traits kc jkc (Nat.le_trans HS.out.traits (by decide)) w4 (H1.out.traits.below B2.out) (H2.out.traits.below B2.out)).mono ?_
 rintro e w5 ⟨rfl, hb⟩
 have T0' := Lib.hid ((hb.block _ (lt_of_block T0.out)).trans T0.out)
 have T1' := Lib.hid ((hb.block _ (lt_of_block T1.out)).trans T1.out)
 have B2' := Lib.hid (B2.out.trans (hb.mono B2.out.size))
 clear c0 c1 c2 c3 c4 c5 c6 d0 d1 d2 d3 d4 d5 d6 T0 T1 B2 hb
 have T0 := T0'
 have T1 := T1'
 have B2 := B2'
 clear T0' T1' B2'
 obtain ⟨c0, c1, c2, c3, c4, c5, c6⟩ := dcells7f T0.out
 obtain ⟨d0, d1, d2, d3, d4, d5, d6⟩ := dcells7f T1.out
 go_wp2_with fail
 clear c0 c1 c2 c3 c4 c5 c6 d0 d1 d2 d3 d4 d5 d6
 go_loopw [5] (fun i wr => ∃ m : Nat, m ≤ d.needs.length ∧ i = .int .i64 m ∧ Hid (Below w5.heap.size w5 wr)) (fun i _ => d.needs.length - (intOf i).toNat)
 case atStart => exact ⟨0, Nat.zero_le _, rfl, Below.refl _ _⟩
 case round =>
  obtain ⟨m, hm, rfl, HB⟩ := hrel
  have c3 := (dcells7f ((HB.out.block _ (lt_of_block T0.out)).trans T0.out)).2.2.2.1
  have d3 := (dcells7f ((HB.out.block _ (lt_of_block T1.out)).trans T1.out)).2.2.2.1
  have hlen : (d.needs.length : Int) ≤ 1000000 := by have := HS.out.needs; omega
  by_cases hlt : m < d.needs.length
  ·obtain ⟨bk, o, e1, k1, k2⟩ := NeedsAt.at (RowIs.below (RowIs.below H1.out.needs B2.out) HB.out) hlt
   obtain ⟨bk', o', e2, j1, j2⟩ := NeedsAt.at (RowIs.below (RowIs.below H2.out.needs B2.out) HB.out) hlt
   obtain rfl : no = _ := e1
   obtain rfl : jno = _ := e2
   have hmi : (m : Int) < (d.needs.length : Int) := by omega
   generalize d.needs[m] = x at k1 k2 j1 j2
   go_wp2_with fail
   go_quiet (fail)
   go_wp2_with fail
   go_roundw
   case rel => exact ⟨m + 1, by omega, by go_num, drawn_same HB.out _⟩
   case measure => simp [intOf]; omega
  ·obtain rfl : m = d.needs.length := by omega
   go_wp2_with fail
   go_ret
   exact ⟨rfl, B2.out.trans (HB.out.mono B2.out.size)⟩
end Go.Proofs.YtgimdkgjfenafaaGreatDoor
