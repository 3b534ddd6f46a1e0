import Derived.Test.YtgimdkgjfenafaaGreatDoorCJDxTT
import Derived.Test.YtgimdkgjfenafaaGreatDoorCJDxRA
import Derived.Test.YtgimdkgjfenafaaGreatDoorCG42
import Derived.Test.YtgimdkgjfenafaaGreatDoorCG21
namespace Go.Proofs.YtgimdkgjfenafaaGreatDoor
open Go.RowKit
open Lib (hid)
theorem op_append_own {o : Oper} {a : Act} {K : Act → World → Prop} {Q : Exit → Act → World → Prop} {w : World} (T E : TypeId) (sz : Nat) (hT : Tryz.prog.underlying T = some (.slice E)) (hI : InfoIs E sz) (hsz : 0 < sz) (s x : Operand)
  (ho : o.op = .call { callee := .builtin .append, args := #[s, x], argTypes := #[T, T] }) {B : Nat} {ao : Option Addr} {n c : Nat} {xs news : List Value} {T2 : TypeId}
  (h : w.ownsRow B E sz (.slice ao n c) n xs) (hB : B ≤ w.heap.size) (h3 : n ≤ 2000000) (hn : news.length = sz) (h1 : news.all Value.oneCell' = true) (hs : a.eval s = .slice ao n c) (hx : a.eval x = .slice (some ⟨w.heap.size, 0, none⟩) 1 1)
  (hk : ∀ ao' c' w', w'.ownsRow B E sz (.slice ao' (n + 1) c') (n + 1) (xs ++ news) → Below B w w' → K (a.put o.dst (.slice ao' (n + 1) c')) w') :
  Oper.wp Tryz.prog o a (w.alloc (.cells news.toArray T2)) K Q := by
 obtain ⟨ao', c', w', hr, g1, g2, _⟩ := append_own (ty := o.type) hT hI hsz h hB h3 hn h1 T2
 unfold Oper.wp execOp
 simp only [ho, resolve, invoke, builtin, Sem.run_bind, Sem.run_pure, Result.andThen_ok, List.map_toArray, List.map_cons, List.map_nil, hs, hx, hr]
 exact hk ao' c' w' g1 g2
structure LdS (W1 : World) (ns : List NeedD) (j : Nat) (vo : Option Addr) (cp : Nat) (wr : World) : Prop where
 below : Below W1.heap.size W1 wr
 own : wr.ownsRow W1.heap.size 103 2 (.slice vo j cp) j ((ns.take j).flatMap NeedD.cells)
def LDefS (x : DEl) (w : World) (e : Ending) (w' : World) : Prop := Below w.heap.size w w' ∧ ∃ y : DEl, e = .returned y.val ∧ y.d = x.d ∧ DefOK w' y ∧ y.io = x.io ∧ y.oo = x.oo ∧ y.ko = x.ko ∧ NeedsAt (above w.heap.size w') y.no y.d.needs
set_option maxHeartbeats 16000000 in
set_option maxRecDepth 100000 in
theorem LDef_more (x : DEl) (hs : DefSmall x.d) (w : World) (hd : DefOK w x) : Calls Tryz.prog 23 #[x.val] w (LDefS x w) := by
 obtain ⟨W1, hW1⟩ : ∃ W1, W1 = ((w.alloc (.cells #[.string x.d.name, .slice x.io x.d.ins.length x.ic, .slice x.oo x.d.outs.length x.oc, .slice x.no x.d.needs.length x.nc, .int .i64 x.d.regions, .int .i64 x.d.succs, .slice x.ko x.d.traits.length x.kc] 41)).alloc (.cells #[.string ⟨#[]⟩, .slice none 0 0, .slice none 0 0, .slice none 0 0, .int .i64 0, .int .i64 0, .slice none 0 0] 36)).alloc (.cells #[.string x.d.name, .slice x.io x.d.ins.length x.ic, .slice x.oo x.d.outs.length x.oc, .slice none 0 0, .int .i64 x.d.regions, .int .i64 x.d.succs, .slice x.ko x.d.traits.length x.kc] 36) := ⟨_, rfl⟩
 have T0 : Hid (W1.heap[w.heap.size]? = some (.cells #[.string x.d.name, .slice x.io x.d.ins.length x.ic, .slice x.oo x.d.outs.length x.oc, .slice x.no x.d.needs.length x.nc, .int .i64 x.d.regions, .int .i64 x.d.succs, .slice x.ko x.d.traits.length x.kc] 41 (0, 0))) := by
  show W1.heap[_]? = _
  rw [hW1]
  exact ((new_below _ _).block _ (lt_of_block (fst_block w _ _))).trans (fst_block _ _ _)
 have T1 : Hid (W1.heap[w.heap.size + 1]? = some (.cells #[.string ⟨#[]⟩, .slice none 0 0, .slice none 0 0, .slice none 0 0, .int .i64 0, .int .i64 0, .slice none 0 0] 36 (0, 0))) := by
  show W1.heap[_]? = _
  rw [hW1]
  exact ((new_below _ _).block _ (lt_of_block (snd_block w _ _))).trans (snd_block _ _ _)
 have T2 : Hid (W1.heap[w.heap.size + 2]? = some (.cells #[.string x.d.name, .slice x.io x.d.ins.length x.ic, .slice x.oo x.d.outs.length x.oc, .slice none 0 0, .int .i64 x.d.regions, .int .i64 x.d.succs, .slice x.ko x.d.traits.length x.kc] 36 (0, 0))) := by
  show W1.heap[_]? = _
  rw [hW1]
  have := heap_alloc_new ((w.alloc (.cells #[.string x.d.name, .slice x.io x.d.ins.length x.ic, .slice x.oo x.d.outs.length x.oc, .slice x.no x.d.needs.length x.nc, .int .i64 x.d.regions, .int .i64 x.d.succs, .slice x.ko x.d.traits.length x.kc] 41)).alloc (.cells #[.string ⟨#[]⟩, .slice none 0 0, .slice none 0 0, .slice none 0 0, .int .i64 0, .int .i64 0, .slice none 0 0] 36)) (.cells #[.string x.d.name, .slice x.io x.d.ins.length x.ic, .slice x.oo x.d.outs.length x.oc, .slice none 0 0, .int .i64 x.d.regions, .int .i64 x.d.succs, .slice x.ko x.d.traits.length x.kc] 36)
  rw [show ((w.alloc (.cells #[.string x.d.name, .slice x.io x.d.ins.length x.ic, .slice x.oo x.d.outs.length x.oc, .slice x.no x.d.needs.length x.nc, .int .i64 x.d.regions, .int .i64 x.d.succs, .slice x.ko x.d.traits.length x.kc] 41)).alloc (.cells #[.string ⟨#[]⟩, .slice none 0 0, .slice none 0 0, .slice none 0 0, .int .i64 0, .int .i64 0, .slice none 0 0] 36)).heap.size = w.heap.size + 2 by simp] at this
  exact this
 have B1 : Hid (Below w.heap.size w W1) := by
  show Below _ _ _
  rw [hW1]
  exact (bel_two _ _ _).alloc (by simp; omega) _
 have HL3 := hid (show w.heap.size + 2 < W1.heap.size from lt_of_block T2.out)
 have HD := hid hd
 have HS := hid hs
 have hni : (x.d.needs.length : Int) ≤ 1048576 := by have := hs.ln; omega
 clear hd hs
 unfold DEl.val
 go_enter Tryz.func23, Tryz.ntmps23
 go_wp2_with fail
 rw [← hW1]
 clear hW1
 go_loopw [4, 5] (fun ov iv wr => ∃ (j : Nat) (vo : Option Addr) (cp : Nat), j ≤ x.d.needs.length ∧ ov = .slice vo j cp ∧ iv = .int .i64 j ∧ Hid (LdS W1 x.d.needs j vo cp wr)) (fun _ iv _ => x.d.needs.length - (intOf iv).toNat)
 case atStart => exact ⟨0, none, 0, Nat.zero_le _, rfl, rfl, Below.refl _ _, World.ownsRow_nil _ _ _ _⟩
 case round =>
  obtain ⟨j, vo, cp, hj, rfl, rfl, HC⟩ := hrel
  have HT0 := hid ((HC.out.below.block _ (lt_of_block T0.out)).trans T0.out)
  by_cases hlt : j < x.d.needs.length
  rotate_left
  ·obtain rfl : j = x.d.needs.length := by omega
   have hge : ¬ (x.d.needs.length : Int) < (x.d.needs.length : Int) := by omega
   have HT1 := hid ((HC.out.below.block _ (lt_of_block T1.out)).trans T1.out)
   have HT2 := hid ((HC.out.below.block _ (lt_of_block T2.out)).trans T2.out)
   have HRW := hid (row_own (own_above HC.out.own))
   clear hlt hj
   obtain ⟨c0, c1, c2, c3, c4, c5, c6, cf⟩ := dcells7 HT0.out
   obtain ⟨d0, d1, d2, d3, d4, d5, d6, df⟩ := dcells7 HT2.out
   go_upto_region 8 with fail
   clear c0 c1 c2 c3 c4 c5 c6 cf d0 d1 d2 d3 d4 d5 d6 df hge
   have HT3 := hid (show (wr.setCell ⟨w.heap.size + 2, 3, none⟩ (.slice vo x.d.needs.length cp)).heap[w.heap.size + 2]? = some (.cells #[.string x.d.name, .slice x.io x.d.ins.length x.ic, .slice x.oo x.d.outs.length x.oc, .slice vo x.d.needs.length cp, .int .i64 x.d.regions, .int .i64 x.d.succs, .slice x.ko x.d.traits.length x.kc] 36 (0, 0)) from heap_setCell_same _ _ _ _ _ _ HT2.out)
   have HT4 := hid (show (wr.setCell ⟨w.heap.size + 2, 3, none⟩ (.slice vo x.d.needs.length cp)).heap[w.heap.size + 1]? = some (.cells #[.string ⟨#[]⟩, .slice none 0 0, .slice none 0 0, .slice none 0 0, .int .i64 0, .int .i64 0, .slice none 0 0] 36 (0, 0)) from (heap_setCell_other _ _ _ _ (by simp)).trans HT1.out)
   have HB4 := hid (show Below w.heap.size w (wr.setCell ⟨w.heap.size + 2, 3, none⟩ (.slice vo x.d.needs.length cp)) from (B1.out.trans (HC.out.below.mono B1.out.size)).setCell (p := ⟨w.heap.size + 2, 3, none⟩) (by simp) _)
   have HR4 := hid (RowIs.keeps HRW.out.1 (above_set (N := W1.heap.size) (b := w.heap.size + 2) (j := 3) (X := wr) (u := .slice vo x.d.needs.length cp) HL3.out))
   generalize wr.setCell ⟨w.heap.size + 2, 3, none⟩ (.slice vo x.d.needs.length cp) = Y at HT3 HT4 HB4 HR4 ⊢
   obtain ⟨c0, c1, c2, c3, c4, c5, c6, cf⟩ := dcells7 HT3.out
   obtain ⟨g0, g1, g2, g3, g4, g5, g6, gf⟩ := dcells7 HT4.out
   go_wp2_with fail
   refine bodyPost_ret (v := .agg #[.string x.d.name, .slice x.io x.d.ins.length x.ic, .slice x.oo x.d.outs.length x.oc, .slice vo x.d.needs.length cp, .int .i64 x.d.regions, .int .i64 x.d.succs, .slice x.ko x.d.traits.length x.kc]) (results_cell Tryz.results23 rfl (pdefVar (dset7_block HT4.out))) rfl ?_
   have hBE := dbelow_set7 HB4.out (b := w.heap.size + 1) (Nat.le_succ _) (u0 := .string x.d.name) (u1 := .slice x.io x.d.ins.length x.ic) (u2 := .slice x.oo x.d.outs.length x.oc) (u3 := .slice vo x.d.needs.length cp) (u4 := .int .i64 x.d.regions) (u5 := .int .i64 x.d.succs) (u6 := .slice x.ko x.d.traits.length x.kc)
   have hr := RowIs.keeps HR4.out (dabove_to (N := W1.heap.size) (M := w.heap.size) (b := w.heap.size + 1) (w := Y) (u0 := .string x.d.name) (u1 := .slice x.io x.d.ins.length x.ic) (u2 := .slice x.oo x.d.outs.length x.oc) (u3 := .slice vo x.d.needs.length cp) (u4 := .int .i64 x.d.regions) (u5 := .int .i64 x.d.succs) (u6 := .slice x.ko x.d.traits.length x.kc) (by have := HL3.out; omega) B1.out.size)
   rw [List.take_length] at hr
   exact ⟨hBE, ⟨x.d, x.io, x.ic, x.oo, x.oc, vo, cp, x.ko, x.kc⟩, rfl, rfl, ⟨HD.out.ins.below hBE, HD.out.outs.below hBE, RowIs.keeps hr above_to, HD.out.traits.below hBE, HD.out.icap, HD.out.ocap, HRW.out.2, HD.out.kcap⟩, rfl, rfl, rfl, hr⟩
  obtain ⟨bk, o, hao, hq⟩ : ∃ bk o, x.no = some ⟨bk, o, none⟩ ∧ True := by
   rcases HD.out.needs with h0 | ⟨bk, o, h, _⟩
   ·rw [h0] at hlt; exact absurd hlt (Nat.not_lt_zero _)
   ·exact ⟨bk, o, h, trivial⟩
  have hjs := List.getElem?_eq_getElem hlt
  generalize x.d.needs[j]'hlt = n at hjs
  have HAO := hid hao
  have HJ := hid hjs
  have HLT := hid hlt
  have hlti : (j : Int) < (x.d.needs.length : Int) := by omega
  clear hq hjs hlt hj hao
  obtain ⟨c0, c1, c2, c3, c4, c5, c6, cf⟩ := dcells7 HT0.out
  go_upto_region 6 with fail
  clear c0 c1 c2 c3 c4 c5 c6 cf
  refine wp_region_held_drew (S := fun w' => Hid (Below W1.heap.size W1 w')) (by kernel_rfl) HC.out.below.drew (fun hHeld => ?_)
  have HOV := hid (ownsRow_below HC.out.own (Below.refl wr.heap.size wr).drew)
  generalize wr.drew = V0 at hHeld HOV ⊢
  have HN3 := hid (fun (X : World) (h : Hid (Below W1.heap.size W1 X)) => (show X.cell? ⟨w.heap.size, 3, none⟩ = some (.slice (some ⟨bk, o, none⟩) x.d.needs.length x.nc) by have := (dcells7 ((h.out.block _ (lt_of_block T0.out)).trans T0.out)).2.2.2.1; rw [HAO.out] at this; exact this))
  have HPN := hid (fun (X : World) (h : Hid (Below W1.heap.size W1 X)) => needs_pair (RowIs.below HD.out.needs (B1.out.trans (h.out.mono B1.out.size))) HJ.out HAO.out)
  refine tkY 0 (.slice vo j cp) hHeld ?_ ?_
  ·intro w9 hSw
   go_simp
  simp only [Act.put, sA, sC, sD, sE, sF]
  refine tkY 1 (.pointer (some ⟨w.heap.size, 3, none⟩)) hHeld ?_ ?_
  ·intro w9 hSw
   go_simp
  simp only [Act.put, sA, sB, sC, sD, sE, sF]
  refine tkY 2 (.slice (some ⟨bk, o, none⟩) x.d.needs.length x.nc) hHeld ?_ ?_
  ·intro w9 hSw
   have hcc := HN3.out w9 hSw
   go_simp
  simp only [Act.put, sA, sB, sC, sD, sE, sF]
  refine tkY 3 (.int .i64 (j : Int)) hHeld ?_ ?_
  ·intro w9 hSw
   go_simp
  simp only [Act.put, sA, sB, sC, sD, sE, sF]
  refine tkY 4 (.pointer (some ⟨bk, o + j * 2, none⟩)) hHeld ?_ ?_
  ·intro w9 hSw
   go_simp
  simp only [Act.put, sA, sB, sC, sD, sE, sF]
  refine tkY 5 (.pointer (some ⟨bk, o + j * 2, none⟩)) hHeld ?_ ?_
  ·intro w9 hSw
   go_simp
  simp only [Act.put, sA, sB, sC, sD, sE, sF]
  refine tkY 6 (.string n.name) hHeld ?_ ?_
  ·intro w9 hSw
   have hcc := (HPN.out w9 hSw).1
   go_simp
  simp only [Act.put, sA, sB, sC, sD, sE, sF]
  refine tkY 7 (.pointer (some ⟨w.heap.size, 3, none⟩)) hHeld ?_ ?_
  ·intro w9 hSw
   go_simp
  simp only [Act.put, sA, sB, sC, sD, sE, sF]
  refine tkY 8 (.slice (some ⟨bk, o, none⟩) x.d.needs.length x.nc) hHeld ?_ ?_
  ·intro w9 hSw
   have hcc := HN3.out w9 hSw
   go_simp
  simp only [Act.put, sA, sB, sC, sD, sE, sF]
  refine tkY 9 (.int .i64 (j : Int)) hHeld ?_ ?_
  ·intro w9 hSw
   go_simp
  simp only [Act.put, sA, sB, sC, sD, sE, sF]
  refine tkY 10 (.pointer (some ⟨bk, o + j * 2, none⟩)) hHeld ?_ ?_
  ·intro w9 hSw
   go_simp
  simp only [Act.put, sA, sB, sC, sD, sE, sF]
  refine tkY 11 (.pointer (some ⟨bk, o + j * 2 + 1, none⟩)) hHeld ?_ ?_
  ·intro w9 hSw
   go_simp
  simp only [Act.put, sA, sB, sC, sD, sE, sF]
  refine tkY 12 (.int .i64 n.kind) hHeld ?_ ?_
  ·intro w9 hSw
   have hcc := (HPN.out w9 hSw).2
   go_simp
  simp only [Act.put, sA, sB, sC, sD, sE, sF]
  refine tkY 13 (.agg #[.string n.name, .int .i64 n.kind]) hHeld ?_ ?_
  ·intro w9 hSw
   go_simp
  simp only [Act.put, sA, sB, sC, sD, sE, sF]
  refine wpAnyH_ready (rs := [14]) (by kernel_rfl) (by simp) ?_
  refine AllReadyH.cons rfl (fun K hK => ?_) AllReadyH.nil
  go_simp
  refine hK.out _ _ (show Hid (Below W1.heap.size W1 _) from hHeld.out.trans ((new_below V0 _).mono hHeld.out.size)) (fun h1 => ?_)
  clear hK K h1
  try simp only [Act.put, sA, sB, sC, sD, sE, sF]
  have HBZ := hid hHeld.out.size
  have HNN := hid (show j ≤ 2000000 by have := HLT.out; have := HS.out.ln; omega)
  refine wpAnyH_ready (rs := [15]) (by kernel_rfl) (by simp) ?_
  refine AllReadyH.cons rfl (fun K hK => ?_) AllReadyH.nil
  rw [if_pos (by rfl)]
  refine op_append_own 34 103 2 Tryz.underlying34 info_need (by decide) _ _ rfl (news := [.string n.name, .int .i64 n.kind]) HOV.out HBZ.out HNN.out rfl rfl rfl rfl ?_
  intro ao5 c5 w5 hown hbel
  have HO5 := hid hown
  refine hK.out _ _ (show Hid (Below W1.heap.size W1 w5) from hHeld.out.trans hbel) (fun h1 => ?_)
  clear hK K hown hbel
  try simp only [Act.put, sA, sB, sC, sD, sE, sF]
  have h2 := hHeld
  clear hHeld
  have hHeld := h1
  clear h1
  refine tkY 16 (.slice ao5 (j + 1) c5) hHeld ?_ ?_
  ·intro w9 hSw
   go_simp
  simp only [Act.put, sA, sB, sC, sD, sE, sF]
  refine wpAnyH_done (by kernel_rfl) ?_ _
  go_wp2_with fail
  go_roundw
  case rel => exact ⟨j + 1, ao5, c5, HLT.out, rfl, by go_num, hHeld.out, by
    have e : (x.d.needs.take (j + 1)).flatMap NeedD.cells = (x.d.needs.take j).flatMap NeedD.cells ++ [.string n.name, .int .i64 n.kind] := by rw [List.take_add_one, HJ.out]; simp [NeedD.cells]
    rw [e]
    exact HO5.out⟩
  case measure => have := HLT.out; simp only [intOf]; omega
def pin (B N : Nat) (g : Option Nat) (w : World) : World := mask (fun k => (decide (k < B) || decide (N ≤ k)) && decide (some k ≠ g)) w
theorem pin_below {B N : Nat} {g : Option Nat} {w w' : World} (h : Below w.heap.size w w') : Keeps (pin B N g w) (pin B N g w') := mask_keeps fun k hp hk => ⟨hp, h.block k hk⟩
theorem pin_off {B N : Nat} {g g' : Option Nat} {w w' : World} (h : Keeps (off g w) (off g' w')) : Keeps (pin B N g w) (pin B N g' w') := fun a v hx => by
 unfold pin at hx ⊢
 rw [mask_cell] at hx ⊢
 split at hx
 ·rename_i hp
  rw [Bool.and_eq_true] at hp
  have h1 : (off g w).cell? a = some v := by unfold off; rw [mask_cell, if_pos hp.2]; exact hx
  have h2 := h a v h1
  unfold off at h2
  rw [mask_cell] at h2
  split at h2
  ·rename_i hq
   rw [if_pos (by rw [Bool.and_eq_true]; exact ⟨hp.1, hq⟩)]
   exact h2
  ·cases h2
 ·cases hx
theorem old_pin {B N : Nat} {g : Option Nat} {w w' : World} (hB : B = w.heap.size) (h : Below B w w') (hg : ∀ k, some k = g → B ≤ k) : Keeps w (pin B N g w') := fun a v hx => by
 have hl := block_lt_of_cell hx
 unfold pin
 rw [mask_cell, if_pos (by
  rw [Bool.and_eq_true, Bool.or_eq_true]
  exact ⟨.inl (decide_eq_true (by omega)), decide_eq_true (fun e => by have := hg _ e; omega)⟩)]
 subst hB
 exact (h.cell hl).trans hx
theorem above_pin {B N M : Nat} {g : Option Nat} {w : World} (h : N ≤ M) (hg : ∀ k, some k = g → k < M) : Keeps (above M w) (pin B N g w) := mask_keeps fun k hp _ => ⟨by
 simp only [decide_eq_true_eq] at hp
 rw [Bool.and_eq_true, Bool.or_eq_true]
 exact ⟨.inr (decide_eq_true (by omega)), decide_eq_true (fun e => by have := hg _ e; omega)⟩, rfl⟩
theorem pin_dia {B N : Nat} {g g' : Option Nat} {w : World} (hg : ∀ k, some k = g' → B ≤ k ∧ k < N) : Keeps (pin B N g w) (off g' w) := mask_keeps fun k hp _ => ⟨by
 rw [Bool.and_eq_true, Bool.or_eq_true] at hp
 simp only [decide_eq_true_eq] at hp ⊢
 intro e
 have := hg _ e
 omega, rfl⟩
theorem pin_set {B N b j : Nat} {g : Option Nat} {w : World} {u : Value} (h1 : B ≤ b) (h2 : b < N) : Keeps (pin B N g w) (pin B N g (w.setCell ⟨b, j, none⟩ u)) := mask_keeps fun k hp _ => ⟨hp, by
 rw [Bool.and_eq_true, Bool.or_eq_true] at hp
 simp only [decide_eq_true_eq] at hp
 exact heap_setCell_other _ _ _ _ (by show k ≠ b; omega)⟩
theorem info_def : InfoIs 36 7 := infoIs (by kernel_rfl)
structure SmallX (x : XEl) : Prop where
 lo : x.ops.length ≤ 1048576
 each : ∀ e ∈ x.ops, DefSmall e.d
 lt : x.types.length ≤ 1048576
 zt : ∀ s ∈ x.types, s.size ≤ 1048576
structure PrI (B : Nat) (w0 Y : World) (x : XEl) (k : Nat) (vo : Option Addr) (cp : Nat) (es : List DEl) (wr : World) : Prop where
 below : Below Y.heap.size Y wr
 row : wr.ownsRow Y.heap.size 36 7 (.slice vo k cp) k (es.flatMap DEl.cells)
 so : es.map (·.d) = (x.ops.take k).map (·.d)
 ok : ∀ e ∈ es, DefOK (pin B Y.heap.size (own vo) wr) e
structure PrO (w0 : World) (xs : List XEl) (i : Nat) (vo : Option Addr) (cp : Nat) (ys : List XEl) (wr : World) : Prop where
 below : Below w0.heap.size w0 wr
 row : wr.ownsRow w0.heap.size 90 3 (.slice vo i cp) i (ys.flatMap XEl.cells)
 so : ys.map XEl.d = (xs.take i).map XEl.d
 ok : ∀ y ∈ ys, DiaOK (off (own vo) wr) y
def LProgP (xs : List XEl) (w : World) (e : Ending) (w' : World) : Prop := Below w.heap.size w w' ∧ ∃ (ao : Option Addr) (ys : List XEl) (c : Nat), e = .returned (.slice ao ys.length c) ∧ ys.map XEl.d = xs.map XEl.d ∧ DiasAt w' ao ys ∧ ys.length ≤ c
theorem map_len {α β : Type} {f : α → β} {l : List α} {l' : List α} {i : Nat} (h : l.map f = (l'.take i).map f) (hi : i ≤ l'.length) : l.length = i := by
 have := congrArg List.length h
 rw [List.length_map, List.length_map, List.length_take] at this
 omega
set_option maxHeartbeats 32000000 in
set_option maxRecDepth 100000 in
theorem LProg_any (ao : Option Addr) (xs : List XEl) (c0 : Nat) (hs : ∀ x ∈ xs, SmallX x) (hl : xs.length ≤ 1048576) (w : World) (hd : DiasAt w ao xs) : Calls Tryz.prog 13 #[.slice ao xs.length c0] w (LProgP xs w) := by
 have HD := hid hd
 have HS := hid hs
 have HL := hid hl
 have hli : (xs.length : Int) ≤ 1048576 := by omega
 clear hd hs hl
 go_enter Tryz.func13, Tryz.ntmps13
 go_wp2_with fail
 go_loopw [3, 4] (fun ov iv wr => ∃ (i : Nat) (vo : Option Addr) (cp : Nat) (ys : List XEl), i ≤ xs.length ∧ ov = .slice vo i cp ∧ iv = .int .i64 i ∧ Hid (PrO w xs i vo cp ys wr)) (fun _ iv _ => xs.length - (intOf iv).toNat)
 case atStart => exact ⟨0, none, 0, [], Nat.zero_le _, rfl, rfl, ⟨Below.refl _ _, World.ownsRow_nil _ _ _ _, rfl, fun y h => by cases h⟩⟩
 case round =>
  obtain ⟨i, vo, cp, ys, hi, rfl, rfl, HO⟩ := hrel
  by_cases hlt : i < xs.length
  rotate_left
  ·obtain rfl : i = xs.length := by omega
   have hge : ¬ ((xs.length : Int) < (xs.length : Int)) := by omega
   clear hlt hi
   go_wp2_with fail
   go_ret
   have hso := HO.out.so
   rw [List.take_length] at hso
   have hyl := map_len HO.out.so (Nat.le_refl _)
   have h1 := row_own HO.out.row
   exact ⟨HO.out.below, vo, ys, cp, by rw [hyl]; rfl, hso, ⟨by rw [hyl]; exact h1.1, fun y hy => (HO.out.ok y hy).keeps off_to⟩, by rw [hyl]; exact h1.2⟩
  have hjs := List.getElem?_eq_getElem hlt
  have hsx := HS.out _ (List.getElem_mem hlt)
  have hdx := HD.out.2 _ (List.getElem_mem hlt)
  obtain ⟨bk, o, e1, kk⟩ := RowIs.at xel_len (HD.out.1.below HO.out.below) hjs
  obtain rfl : ao = _ := e1
  generalize xs[i]'hlt = x at hjs hsx hdx kk
  have HJ := hid hjs
  have HSX := hid hsx
  have HDX := hid hdx
  have HLT := hid hlt
  have hlti : (i : Int) < (xs.length : Int) := by omega
  have K0 := hid (show wr.cell? ⟨bk, o + i * 3, none⟩ = some (.string x.name) from kk 0 _ rfl)
  have K1 := hid (show wr.cell? ⟨bk, o + i * 3 + 1, none⟩ = some (.slice x.yo x.types.length x.yc) from kk 1 _ rfl)
  have K2 := hid (show wr.cell? ⟨bk, o + i * 3 + 2, none⟩ = some (.slice x.po x.ops.length x.pc) from kk 2 _ rfl)
  clear hjs hsx hdx kk hlt hi
  go_upto_region 5 with fail
  refine wp_region_held_drew (S := fun w' => Hid (Keeps wr w')) (by kernel_rfl) (fun _ _ h => h) (fun hHeld => ?_)
  have HBV := hid (HO.out.below.drew)
  have HRV := hid (ownsRow_below HO.out.row (Below.refl wr.heap.size wr).drew)
  have HYV := hid (fun y hy => (HO.out.ok y hy).keeps (off_below (Below.refl wr.heap.size wr).drew))
  have HSO := hid HO.out.so
  have HC0 := hid (fun (X : World) (h : Hid (Keeps wr X)) => h.out _ _ K0.out)
  have HC1 := hid (fun (X : World) (h : Hid (Keeps wr X)) => h.out _ _ K1.out)
  generalize wr.drew = V0 at hHeld HBV HRV HYV ⊢
  refine tkY 0 (.slice (some ⟨bk, o, none⟩) xs.length c0) hHeld ?_ ?_
  ·intro w9 hSw
   go_simp
  simp only [Act.put, sA, sC, sD, sE, sF]
  refine tkY 1 (.int .i64 (i : Int)) hHeld ?_ ?_
  ·intro w9 hSw
   go_simp
  simp only [Act.put, sA, sB, sC, sD, sE, sF]
  refine tkY 2 (.pointer (some ⟨bk, o + i * 3, none⟩)) hHeld ?_ ?_
  ·intro w9 hSw
   go_simp
  simp only [Act.put, sA, sB, sC, sD, sE, sF]
  refine tkY 3 (.pointer (some ⟨bk, o + i * 3, none⟩)) hHeld ?_ ?_
  ·intro w9 hSw
   go_simp
  simp only [Act.put, sA, sB, sC, sD, sE, sF]
  refine tkY 4 (.string x.name) hHeld ?_ ?_
  ·intro w9 hSw
   have hcc := HC0.out w9 hSw
   go_simp
  simp only [Act.put, sA, sB, sC, sD, sE, sF]
  refine tkY 5 (.slice (some ⟨bk, o, none⟩) xs.length c0) hHeld ?_ ?_
  ·intro w9 hSw
   go_simp
  simp only [Act.put, sA, sB, sC, sD, sE, sF]
  refine tkY 6 (.int .i64 (i : Int)) hHeld ?_ ?_
  ·intro w9 hSw
   go_simp
  simp only [Act.put, sA, sB, sC, sD, sE, sF]
  refine tkY 7 (.pointer (some ⟨bk, o + i * 3, none⟩)) hHeld ?_ ?_
  ·intro w9 hSw
   go_simp
  simp only [Act.put, sA, sB, sC, sD, sE, sF]
  refine tkY 8 (.pointer (some ⟨bk, o + i * 3 + 1, none⟩)) hHeld ?_ ?_
  ·intro w9 hSw
   go_simp
  simp only [Act.put, sA, sB, sC, sD, sE, sF]
  refine tkY 9 (.slice x.yo x.types.length x.yc) hHeld ?_ ?_
  ·intro w9 hSw
   have hcc := HC1.out w9 hSw
   go_simp
  simp only [Act.put, sA, sB, sC, sD, sE, sF]
  refine tkY 10 (.agg #[.string x.name, .slice x.yo x.types.length x.yc, .slice none 0 0]) hHeld ?_ ?_
  ·intro w9 hSw
   go_simp
  simp only [Act.put, sA, sB, sC, sD, sE, sF]
  refine wpAnyH_ready (rs := [11]) (by kernel_rfl) (by simp) ?_
  refine AllReadyH.cons rfl (fun K hK => ?_) AllReadyH.nil
  go_simp
  refine hK.out _ _ (show Hid (Keeps wr _) from hHeld.out.trans (Keeps.of_below (new_below V0 _))) (fun h1 => ?_)
  clear hK K
  try simp only [Act.put, sA, sB, sC, sD, sE, sF]
  have HN1 := hid (new_below V0 (.cells #[.string ⟨#[]⟩, .slice none 0 0, .slice none 0 0] 90))
  have T1 := hid (heap_alloc_new V0 (.cells #[.string ⟨#[]⟩, .slice none 0 0, .slice none 0 0] 90))
  generalize V0.alloc (.cells #[.string ⟨#[]⟩, .slice none 0 0, .slice none 0 0] 90) = X1 at h1 HN1 T1 ⊢
  generalize hD : V0.heap.size = D at T1 ⊢
  have HDE := hid hD
  clear hD
  obtain ⟨b0, b1, b2, bf⟩ := cells3 T1.out
  refine wpAnyH_ready (rs := [12]) (by kernel_rfl) (by simp) ?_
  refine AllReadyH.cons rfl (fun K hK => ?_) AllReadyH.nil
  go_simp
  have HNY := hid (below_set3 (b := D) (u0 := .string x.name) (u1 := .slice x.yo x.types.length x.yc) (u2 := .slice none 0 0) HN1.out (Nat.le_of_eq HDE.out))
  have T2 := hid (set3_block (u0 := .string x.name) (u1 := .slice x.yo x.types.length x.yc) (u2 := .slice none 0 0) T1.out)
  refine hK.out _ _ (show Hid (Keeps wr _) from hHeld.out.trans (Keeps.of_below HNY.out)) (fun hEnd => ?_)
  clear hK K b0 b1 b2 bf
  try simp only [Act.put, sA, sB, sC, sD, sE, sF]
  refine wpAnyH_done (by kernel_rfl) ?_ _
  generalize ((X1.setCell ⟨D, 0, none⟩ (.string x.name)).setCell ⟨D, 1, none⟩ (.slice x.yo x.types.length x.yc)).setCell ⟨D, 2, none⟩ (.slice none 0 0) = Y at HNY T2 hEnd ⊢
  clear h1 hHeld hEnd HC0 HC1 HN1 T1 K0 K1 K2
  have HBY := hid (HBV.out.trans (HNY.out.mono HBV.out.size))
  have HK2 := hid (fun (X : World) (h : Below w.heap.size w X) => show X.cell? ⟨bk, o + i * 3 + 2, none⟩ = some (.slice x.po x.ops.length x.pc) from by
   obtain ⟨bk', o', e, hc⟩ := RowIs.at xel_len (HD.out.1.below h) HJ.out
   cases e
   exact hc 2 _ rfl)
  have HOB := hid (own_lt' HRV.out)
  have HDY := hid (lt_of_block T2.out)
  have hoi : (x.ops.length : Int) ≤ 1048576 := by have := HSX.out.lo; omega
  go_wp2_with fail
  go_loopw [6, 7] (fun ov kv wr2 => ∃ (k : Nat) (vo2 : Option Addr) (cp2 : Nat) (es : List DEl), k ≤ x.ops.length ∧ ov = .slice vo2 k cp2 ∧ kv = .int .i64 k ∧ Hid (PrI w.heap.size w Y x k vo2 cp2 es wr2)) (fun _ kv _ => x.ops.length - (intOf kv).toNat)
  case atStart => exact ⟨0, none, 0, [], Nat.zero_le _, rfl, rfl, ⟨Below.refl _ _, World.ownsRow_nil _ _ _ _, rfl, fun y h => by cases h⟩⟩
  case round =>
   obtain ⟨k, vo2, cp2, es, hk, rfl, rfl, HI⟩ := hrel
   have HB2 := hid (HBY.out.trans (HI.out.below.mono HBY.out.size))
   have T3 := hid ((HI.out.below.block _ (lt_of_block T2.out)).trans T2.out)
   have hk2 := HK2.out _ HB2.out
   by_cases hlt : k < x.ops.length
   rotate_left
   ·obtain rfl : k = x.ops.length := by omega
    have hge : ¬ ((x.ops.length : Int) < (x.ops.length : Int)) := by omega
    clear hlt hk
    obtain ⟨b0, b1, b2, bf⟩ := cells3 T3.out
    go_upto_region 12 with fail
    clear hk2 b0 b1 b2 bf hge
    have T4 := hid (heap_setCell_same wr D 2 _ _ (.slice vo2 x.ops.length cp2) T3.out)
    replace T4 := hid (show (wr.setCell ⟨D, 2, none⟩ (.slice vo2 x.ops.length cp2)).heap[D]? = some (.cells #[.string x.name, .slice x.yo x.types.length x.yc, .slice vo2 x.ops.length cp2] 90 (0, 0)) from T4.out)
    have HVZ := hid (show Below V0.heap.size V0 (wr.setCell ⟨D, 2, none⟩ (.slice vo2 x.ops.length cp2)) from (HNY.out.trans (HI.out.below.mono HNY.out.size)).setCell (p := ⟨D, 2, none⟩) (Nat.le_of_eq HDE.out) _)
    have HPS := hid (fun g => pin_set (B := w.heap.size) (N := Y.heap.size) (b := D) (j := 2) (g := g) (w := wr) (u := .slice vo2 x.ops.length cp2) (by have := HDE.out; have := HBV.out.size; omega) HDY.out)
    generalize wr.setCell ⟨D, 2, none⟩ (.slice vo2 x.ops.length cp2) = Z at T4 HVZ HPS ⊢
    have HBZ := hid (HBV.out.trans (HVZ.out.mono HBV.out.size))
    have HRZ := hid (ownsRow_below HRV.out HVZ.out)
    have HYZ := hid (fun y hy => (HYV.out y hy).keeps (off_below HVZ.out))
    have HBS := hid HBZ.out.size
    have HNN := hid (show i ≤ 2000000 by have := HLT.out; have := HL.out; omega)
    have HPD := hid (fun g => pin_dia (B := w.heap.size) (N := Y.heap.size) (g := g) (g' := own vo) (w := Z) (fun k e => ⟨(HOB.out k e).1, by have := (HOB.out k e).2; have := HNY.out.size; omega⟩))
    have HNEW : Hid (DiaOK (off (own vo) Z) ⟨x.name, x.types, es, x.yo, x.yc, vo2, cp2⟩) := by
     have hel := map_len HI.out.so (Nat.le_refl _)
     have h1 := row_own (own_above HI.out.row)
     refine ⟨strs_keeps HDX.out.types ((old_pin rfl HBZ.out (N := Y.heap.size) (g := none) (fun k e => by cases e)).trans (HPD.out none)), ⟨?_, fun e he => (HI.out.ok e he).keeps ((HPS.out _).trans (HPD.out _))⟩, HDX.out.ycap, ?_⟩
     ·show RowIs _ vo2 es.length _
      rw [hel]
      exact RowIs.keeps h1.1 (((above_pin (Nat.le_refl _) (fun k e => by cases e)).trans (HPS.out none)).trans (HPD.out none))
     ·show es.length ≤ cp2
      rw [hel]
      exact h1.2
    have HDN := hid (show XEl.d ⟨x.name, x.types, es, x.yo, x.yc, vo2, cp2⟩ = x.d by
     have := HI.out.so
     rw [List.take_length] at this
     show (⟨x.name, x.types, es.map (·.d)⟩ : DiaD) = _
     rw [this]
     rfl)
    have hel := hid (map_len HI.out.so (Nat.le_refl _))
    obtain ⟨b0, b1, b2, bf⟩ := cells3 T4.out
    go_wp2_with (at_builtin; refine wp_append_own rfl 25 90 3 Tryz.underlying25 info_dia (by decide) _ _ rfl HRZ.out HBS.out HNN.out rfl rfl rfl rfl ?_; intro ao5 c5 w5 hown hbel hkp; have HO5 := hid hown; have HB5 := hid hbel; have HK5 := hid hkp; clear hown hbel hkp)
    go_roundw
    case rel => exact ⟨i + 1, ao5, c5, ys ++ [(⟨x.name, x.types, es, x.yo, x.yc, vo2, cp2⟩ : XEl)], HLT.out, rfl, by go_num, HBZ.out.trans HB5.out, by
      rw [List.flatMap_append, List.flatMap_singleton]
      show w5.ownsRow _ _ _ _ _ (ys.flatMap XEl.cells ++ [.string x.name, .slice x.yo x.types.length x.yc, .slice vo2 es.length cp2])
      rw [hel.out]
      exact HO5.out, by rw [List.map_append, HSO.out, List.take_add_one, HJ.out, List.map_append, List.map_singleton, HDN.out]; rfl, fun y hy => by
      rcases List.mem_append.1 hy with hy | hy
      ·exact (HYZ.out y hy).keeps HK5.out
      ·obtain rfl := List.mem_singleton.1 hy
       exact HNEW.out.keeps HK5.out⟩
    case measure => have := HLT.out; simp only [intOf]; omega
   have hjs := List.getElem?_eq_getElem hlt
   have hse := HSX.out.each _ (List.getElem_mem hlt)
   have hde := HDX.out.ops.2 _ (List.getElem_mem hlt)
   obtain ⟨bn, on, e1, kk⟩ := RowIs.at del_len (HDX.out.ops.1.below HB2.out) hjs
   generalize x.ops[k]'hlt = e at hjs hse hde kk
   rw [e1] at hk2
   have d0 := kk 0 _ rfl
   have d1 := kk 1 _ rfl
   have d2 := kk 2 _ rfl
   have d3 := kk 3 _ rfl
   have d4 := kk 4 _ rfl
   have d5 := kk 5 _ rfl
   have d6 := kk 6 _ rfl
   rw [Nat.add_zero] at d0
   have HE := hid hjs
   have HDE2 := hid hde
   have HLK := hid hlt
   have hlti2 : (k : Int) < (x.ops.length : Int) := by omega
   have HLD := hid (LDef_more e hse wr (hde.below HB2.out))
   clear hjs hse hde kk hlt hk e1
   unfold DEl.val at HLD
   go_wp2_with fail
   refine HLD.out.mono ?_
   rintro e' w4 ⟨hb, y, rfl, hyd, hyo, h1, h2, h3, hnd⟩
   unfold DEl.val
   have HB4 := hid (HB2.out.trans (hb.mono HB2.out.size))
   have HOW := hid (ownsRow_below HI.out.row hb)
   have HBZ := hid (show Y.heap.size ≤ w4.heap.size from Nat.le_trans HI.out.below.size hb.size)
   have HNN := hid (show k ≤ 2000000 by have := HLK.out; have := HSX.out.lo; omega)
   have HYB := hid (HI.out.below.trans (hb.mono HI.out.below.size))
   have HYD := hid hyd
   have HIS := hid HI.out.so
   have HKO := hid (fun a ha => (HI.out.ok a ha).keeps (pin_below hb))
   have HNY2 : Hid (DefOK (pin w.heap.size Y.heap.size (own vo2) w4) y) := by
    have ho := own_lt' HI.out.row
    have hold := old_pin rfl HB4.out (N := Y.heap.size) (g := own vo2) (fun k e => Nat.le_trans HBY.out.size (ho k e).1)
    refine ⟨?_, ?_, RowIs.keeps hnd (above_pin HI.out.below.size (fun k e => (ho k e).2)), ?_, hyo.icap, hyo.ocap, hyo.ncap, hyo.kcap⟩
    ·rw [h1, hyd]; exact strs_keeps HDE2.out.ins hold
    ·rw [h2, hyd]; exact strs_keeps HDE2.out.outs hold
    ·rw [h3, hyd]; exact strs_keeps HDE2.out.traits hold
   clear hb hyd hyo h1 h2 h3 hnd HLD HI d0 d1 d2 d3 d4 d5 d6 hk2
   go_wp2_with (at_builtin; refine wp_append_own rfl 88 36 7 Tryz.underlying88 info_def (by decide) _ _ rfl HOW.out HBZ.out HNN.out rfl rfl rfl rfl ?_; intro ao5 c5 w5 hown hbel hkp; have HO5 := hid hown; have HB5 := hid hbel; have HK5 := hid hkp; clear hown hbel hkp)
   go_roundw
   case rel => exact ⟨k + 1, ao5, c5, es ++ [y], HLK.out, rfl, by go_num, HYB.out.trans HB5.out, by
     rw [List.flatMap_append, List.flatMap_singleton]
     exact HO5.out, by rw [List.map_append, HIS.out, List.take_add_one, HE.out, List.map_append, List.map_singleton, HYD.out]; rfl, fun a ha => by
     rcases List.mem_append.1 ha with ha | ha
     ·exact (HKO.out a ha).keeps (pin_off HK5.out)
     ·obtain rfl := List.mem_singleton.1 ha
      exact HNY2.out.keeps (pin_off HK5.out)⟩
   case measure => have := HLK.out; simp only [intOf]; omega
end Go.Proofs.YtgimdkgjfenafaaGreatDoor
