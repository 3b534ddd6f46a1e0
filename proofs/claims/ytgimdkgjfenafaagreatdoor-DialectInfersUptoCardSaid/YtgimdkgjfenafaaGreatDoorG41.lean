import Derived.Test.YtgimdkgjfenafaaGreatDoorG40
namespace Go.Proofs.YtgimdkgjfenafaaGreatDoor
open Go.RowKit
theorem op_append_own {o : Oper} {a : Act} {K : Act → World → Prop} {Q : Exit → Act → World → Prop} {w : World} (T E : TypeId) (sz : Nat) (hT : Tryz.prog.underlying T = some (.slice E)) (hI : InfoIs E sz) (hsz : 0 < sz) (s x : Operand)
  (ho : o.op = .call { callee := .builtin .append, args := #[s, x], argTypes := #[T, T] }) {B : Nat} {ao : Option Addr} {n c : Nat} {xs news : List Value} {T2 : TypeId}
  (h : w.ownsRow B E sz (.slice ao n c) n xs) (hB : B ≤ w.heap.size) (h3 : n ≤ 2000000) (hn : news.length = sz) (h1 : news.all Value.oneCell' = true) (hs : a.eval s = .slice ao n c) (hx : a.eval x = .slice (some ⟨w.heap.size, 0, none⟩) 1 1)
  (hk : ∀ ao' c' w', w'.ownsRow B E sz (.slice ao' (n + 1) c') (n + 1) (xs ++ news) → Below B w w' → K (a.put o.dst (.slice ao' (n + 1) c')) w') :
  Oper.wp Tryz.prog o a (w.alloc (.cells news.toArray T2)) K Q := by
 obtain ⟨ao', c', w', hr, g1, g2, _⟩ := append_own (ty := o.type) hT hI hsz h hB h3 hn h1 T2
 unfold Oper.wp execOp
 simp only [ho, resolve, invoke, builtin, Sem.run_bind, Sem.run_pure, Result.andThen_ok, List.map_toArray, List.map_cons, List.map_nil, hs, hx, hr]
 exact hk ao' c' w' g1 g2
structure LdS (W1 : World) (ns : List NeedD) (j : Nat) (vo : Option Addr) (cp : Nat) (wr : World) : Prop where
 below : Below W1.heap.size W1 wr
 own : wr.ownsRow W1.heap.size 103 2 (.slice vo j cp) j ((ns.take j).flatMap NeedD.cells)
def LDefP (x : DEl) (w : World) (e : Ending) (w' : World) : Prop := Below w.heap.size w w' ∧ ∃ y : DEl, e = .returned y.val ∧ y.d = x.d ∧ DefOK w' y
set_option maxHeartbeats 16000000 in
set_option maxRecDepth 100000 in
theorem LDef_any (x : DEl) (hs : DefSmall x.d) (w : World) (hd : DefOK w x) : Calls Tryz.prog 23 #[x.val] w (LDefP x w) := by
 obtain ⟨W1, hW1⟩ : ∃ W1, W1 = ((w.alloc (.cells #[.string x.d.name, .slice x.io x.d.ins.length x.ic, .slice x.oo x.d.outs.length x.oc, .slice x.no x.d.needs.length x.nc, .int .i64 x.d.regions, .int .i64 x.d.succs, .slice x.ko x.d.traits.length x.kc] 41)).alloc (.cells #[.string ⟨#[]⟩, .slice none 0 0, .slice none 0 0, .slice none 0 0, .int .i64 0, .int .i64 0, .slice none 0 0] 36)).alloc (.cells #[.string x.d.name, .slice x.io x.d.ins.length x.ic, .slice x.oo x.d.outs.length x.oc, .slice none 0 0, .int .i64 x.d.regions, .int .i64 x.d.succs, .slice x.ko x.d.traits.length x.kc] 36) := ⟨_, rfl⟩
 have T0 : Hid (W1.heap[w.heap.size]? = some (.cells #[.string x.d.name, .slice x.io x.d.ins.length x.ic, .slice x.oo x.d.outs.length x.oc, .slice x.no x.d.needs.length x.nc, .int .i64 x.d.regions, .int .i64 x.d.succs, .slice x.ko x.d.traits.length x.kc] 41 (0, 0))) := by
  show W1.heap[_]? = _
  rw [hW1]
  exact ((new_below _ _).block _ (lt_of_block (fst_block w _ _))).trans (fst_block _ _ _)
 have T1 : Hid (W1.heap[w.heap.size + 1]? = some (.cells #[.string ⟨#[]⟩, .slice none 0 0, .slice none 0 0, .slice none 0 0, .int .i64 0, .int .i64 0, .slice none 0 0] 36 (0, 0))) := by
  show W1.heap[_]? = _
  rw [hW1]
  exact ((new_below _ _).block _ (lt_of_block (snd_block w _ _))).trans (snd_block _ _ _)
 have T2 : Hid (W1.heap[w.heap.size + 2]? = some (.cells #[.string x.d.name, .slice x.io x.d.ins.length x.ic, .slice x.oo x.d.outs.length x.oc, .slice none 0 0, .int .i64 x.d.regions, .int .i64 x.d.succs, .slice x.ko x.d.traits.length x.kc] 36 (0, 0))) := by
  show W1.heap[_]? = _
  rw [hW1]
  have := heap_alloc_new ((w.alloc (.cells #[.string x.d.name, .slice x.io x.d.ins.length x.ic, .slice x.oo x.d.outs.length x.oc, .slice x.no x.d.needs.length x.nc, .int .i64 x.d.regions, .int .i64 x.d.succs, .slice x.ko x.d.traits.length x.kc] 41)).alloc (.cells #[.string ⟨#[]⟩, .slice none 0 0, .slice none 0 0, .slice none 0 0, .int .i64 0, .int .i64 0, .slice none 0 0] 36)) (.cells #[.string x.d.name, .slice x.io x.d.ins.length x.ic, .slice x.oo x.d.outs.length x.oc, .slice none 0 0, .int .i64 x.d.regions, .int .i64 x.d.succs, .slice x.ko x.d.traits.length x.kc] 36)
  rw [show ((w.alloc (.cells #[.string x.d.name, .slice x.io x.d.ins.length x.ic, .slice x.oo x.d.outs.length x.oc, .slice x.no x.d.needs.length x.nc, .int .i64 x.d.regions, .int .i64 x.d.succs, .slice x.ko x.d.traits.length x.kc] 41)).alloc (.cells #[.string ⟨#[]⟩, .slice none 0 0, .slice none 0 0, .slice none 0 0, .int .i64 0, .int .i64 0, .slice none 0 0] 36)).heap.size = w.heap.size + 2 by simp] at this
  exact this
 have B1 : Hid (Below w.heap.size w W1) := by
  show Below _ _ _
  rw [hW1]
  exact (bel_two _ _ _).alloc (by simp; omega) _
 have HL3 := Lib.hid (show w.heap.size + 2 < W1.heap.size from lt_of_block T2.out)
 have HD := Lib.hid hd
 have HS := Lib.hid hs
 have hni : (x.d.needs.length : Int) ≤ 1048576 := by have := hs.ln; omega
 clear hd hs
 unfold DEl.val
 go_enter Tryz.func23, Tryz.ntmps23
 go_wp2_with fail
 rw [← hW1]
 clear hW1
 go_loopw [4, 5] (fun ov iv wr => ∃ (j : Nat) (vo : Option Addr) (cp : Nat), j ≤ x.d.needs.length ∧ ov = .slice vo j cp ∧ iv = .int .i64 j ∧ Hid (LdS W1 x.d.needs j vo cp wr)) (fun _ iv _ => x.d.needs.length - (intOf iv).toNat)
 case atStart => exact ⟨0, none, 0, Nat.zero_le _, rfl, rfl, Below.refl _ _, World.ownsRow_nil _ _ _ _⟩
 case round =>
  obtain ⟨j, vo, cp, hj, rfl, rfl, HC⟩ := hrel
  have HT0 := Lib.hid ((HC.out.below.block _ (lt_of_block T0.out)).trans T0.out)
  by_cases hlt : j < x.d.needs.length
  rotate_left
  ·obtain rfl : j = x.d.needs.length := by omega
   have hge : ¬ (x.d.needs.length : Int) < (x.d.needs.length : Int) := by omega
   have HT1 := Lib.hid ((HC.out.below.block _ (lt_of_block T1.out)).trans T1.out)
   have HT2 := Lib.hid ((HC.out.below.block _ (lt_of_block T2.out)).trans T2.out)
   have HRW := Lib.hid (row_own (own_above HC.out.own))
   clear hlt hj
   obtain ⟨c0, c1, c2, c3, c4, c5, c6, cf⟩ := dcells7 HT0.out
   obtain ⟨d0, d1, d2, d3, d4, d5, d6, df⟩ := dcells7 HT2.out
   go_upto_region 8 with fail
   clear c0 c1 c2 c3 c4 c5 c6 cf d0 d1 d2 d3 d4 d5 d6 df hge
   have HT3 := Lib.hid (show (wr.setCell ⟨w.heap.size + 2, 3, none⟩ (.slice vo x.d.needs.length cp)).heap[w.heap.size + 2]? = some (.cells #[.string x.d.name, .slice x.io x.d.ins.length x.ic, .slice x.oo x.d.outs.length x.oc, .slice vo x.d.needs.length cp, .int .i64 x.d.regions, .int .i64 x.d.succs, .slice x.ko x.d.traits.length x.kc] 36 (0, 0)) from heap_setCell_same _ _ _ _ _ _ HT2.out)
   have HT4 := Lib.hid (show (wr.setCell ⟨w.heap.size + 2, 3, none⟩ (.slice vo x.d.needs.length cp)).heap[w.heap.size + 1]? = some (.cells #[.string ⟨#[]⟩, .slice none 0 0, .slice none 0 0, .slice none 0 0, .int .i64 0, .int .i64 0, .slice none 0 0] 36 (0, 0)) from (heap_setCell_other _ _ _ _ (by simp)).trans HT1.out)
   have HB4 := Lib.hid (show Below w.heap.size w (wr.setCell ⟨w.heap.size + 2, 3, none⟩ (.slice vo x.d.needs.length cp)) from (B1.out.trans (HC.out.below.mono B1.out.size)).setCell (p := ⟨w.heap.size + 2, 3, none⟩) (by simp) _)
   have HR4 := Lib.hid (RowIs.keeps HRW.out.1 (above_set (N := W1.heap.size) (b := w.heap.size + 2) (j := 3) (X := wr) (u := .slice vo x.d.needs.length cp) HL3.out))
   generalize wr.setCell ⟨w.heap.size + 2, 3, none⟩ (.slice vo x.d.needs.length cp) = Y at HT3 HT4 HB4 HR4 ⊢
   obtain ⟨c0, c1, c2, c3, c4, c5, c6, cf⟩ := dcells7 HT3.out
   obtain ⟨g0, g1, g2, g3, g4, g5, g6, gf⟩ := dcells7 HT4.out
   go_wp2_with fail
   refine bodyPost_ret (v := .agg #[.string x.d.name, .slice x.io x.d.ins.length x.ic, .slice x.oo x.d.outs.length x.oc, .slice vo x.d.needs.length cp, .int .i64 x.d.regions, .int .i64 x.d.succs, .slice x.ko x.d.traits.length x.kc]) (results_cell Tryz.results23 rfl (pdefVar (dset7_block HT4.out))) rfl ?_
   have hBE := dbelow_set7 HB4.out (b := w.heap.size + 1) (Nat.le_succ _) (u0 := .string x.d.name) (u1 := .slice x.io x.d.ins.length x.ic) (u2 := .slice x.oo x.d.outs.length x.oc) (u3 := .slice vo x.d.needs.length cp) (u4 := .int .i64 x.d.regions) (u5 := .int .i64 x.d.succs) (u6 := .slice x.ko x.d.traits.length x.kc)
   refine ⟨hBE, ⟨x.d, x.io, x.ic, x.oo, x.oc, vo, cp, x.ko, x.kc⟩, rfl, rfl, HD.out.ins.below hBE, HD.out.outs.below hBE, ?_, HD.out.traits.below hBE, HD.out.icap, HD.out.ocap, HRW.out.2, HD.out.kcap⟩
   have hr := RowIs.keeps HR4.out ((dabove_to (N := W1.heap.size) (M := 0) (b := w.heap.size + 1) (w := Y) (u0 := .string x.d.name) (u1 := .slice x.io x.d.ins.length x.ic) (u2 := .slice x.oo x.d.outs.length x.oc) (u3 := .slice vo x.d.needs.length cp) (u4 := .int .i64 x.d.regions) (u5 := .int .i64 x.d.succs) (u6 := .slice x.ko x.d.traits.length x.kc) (by have := HL3.out; omega) (Nat.zero_le _)).trans above_to)
   rw [List.take_length] at hr
   exact hr
  obtain ⟨bk, o, hao, hq⟩ : ∃ bk o, x.no = some ⟨bk, o, none⟩ ∧ True := by
   rcases HD.out.needs with h0 | ⟨bk, o, h, _⟩
   ·rw [h0] at hlt; exact absurd hlt (Nat.not_lt_zero _)
   ·exact ⟨bk, o, h, trivial⟩
  have hjs := List.getElem?_eq_getElem hlt
  generalize x.d.needs[j]'hlt = n at hjs
  have HAO := Lib.hid hao
  have HJ := Lib.hid hjs
  have HLT := Lib.hid hlt
  have hlti : (j : Int) < (x.d.needs.length : Int) := by omega
  clear hq hjs hlt hj hao
  obtain ⟨c0, c1, c2, c3, c4, c5, c6, cf⟩ := dcells7 HT0.out
  go_upto_region 6 with fail
  clear c0 c1 c2 c3 c4 c5 c6 cf
  refine wp_region_held_drew (S := fun w' => Hid (Below W1.heap.size W1 w')) (by kernel_rfl) HC.out.below.drew (fun hHeld => ?_)
  have HOV := Lib.hid (ownsRow_below HC.out.own (Below.refl wr.heap.size wr).drew)
  generalize wr.drew = V0 at hHeld HOV ⊢
  have HN3 := Lib.hid (fun (X : World) (h : Hid (Below W1.heap.size W1 X)) => (show X.cell? ⟨w.heap.size, 3, none⟩ = some (.slice (some ⟨bk, o, none⟩) x.d.needs.length x.nc) by have := (dcells7 ((h.out.block _ (lt_of_block T0.out)).trans T0.out)).2.2.2.1; rw [HAO.out] at this; exact this))
  have HPN := Lib.hid (fun (X : World) (h : Hid (Below W1.heap.size W1 X)) => needs_pair (RowIs.below HD.out.needs (B1.out.trans (h.out.mono B1.out.size))) HJ.out HAO.out)
  refine wpAnyH_take (i := 0) (v := .slice vo j cp) rfl (by kernel_rfl) (by kernel_rfl) (by kernel_rfl) (fun _ _ _ h => h) (Or.inl ⟨by rfl, ?_⟩) hHeld ?_
  ·intro w9 hSw
   go_simp
  simp only [Act.put, sA, sC, sD, sE, sF]
  refine wpAnyH_take (i := 1) (v := .pointer (some ⟨w.heap.size, 3, none⟩)) rfl (by kernel_rfl) (by kernel_rfl) (by kernel_rfl) (fun _ _ _ h => h) (Or.inl ⟨by rfl, ?_⟩) hHeld ?_
  ·intro w9 hSw
   go_simp
  simp only [Act.put, sA, sB, sC, sD, sE, sF]
  refine wpAnyH_take (i := 2) (v := .slice (some ⟨bk, o, none⟩) x.d.needs.length x.nc) rfl (by kernel_rfl) (by kernel_rfl) (by kernel_rfl) (fun _ _ _ h => h) (Or.inl ⟨by rfl, ?_⟩) hHeld ?_
  ·intro w9 hSw
   have hcc := HN3.out w9 hSw
   go_simp
  simp only [Act.put, sA, sB, sC, sD, sE, sF]
  refine wpAnyH_take (i := 3) (v := .int .i64 (j : Int)) rfl (by kernel_rfl) (by kernel_rfl) (by kernel_rfl) (fun _ _ _ h => h) (Or.inl ⟨by rfl, ?_⟩) hHeld ?_
  ·intro w9 hSw
   go_simp
  simp only [Act.put, sA, sB, sC, sD, sE, sF]
  refine wpAnyH_take (i := 4) (v := .pointer (some ⟨bk, o + j * 2, none⟩)) rfl (by kernel_rfl) (by kernel_rfl) (by kernel_rfl) (fun _ _ _ h => h) (Or.inl ⟨by rfl, ?_⟩) hHeld ?_
  ·intro w9 hSw
   go_simp
  simp only [Act.put, sA, sB, sC, sD, sE, sF]
  refine wpAnyH_take (i := 5) (v := .pointer (some ⟨bk, o + j * 2, none⟩)) rfl (by kernel_rfl) (by kernel_rfl) (by kernel_rfl) (fun _ _ _ h => h) (Or.inl ⟨by rfl, ?_⟩) hHeld ?_
  ·intro w9 hSw
   go_simp
  simp only [Act.put, sA, sB, sC, sD, sE, sF]
  refine wpAnyH_take (i := 6) (v := .string n.name) rfl (by kernel_rfl) (by kernel_rfl) (by kernel_rfl) (fun _ _ _ h => h) (Or.inl ⟨by rfl, ?_⟩) hHeld ?_
  ·intro w9 hSw
   have hcc := (HPN.out w9 hSw).1
   go_simp
  simp only [Act.put, sA, sB, sC, sD, sE, sF]
  refine wpAnyH_take (i := 7) (v := .pointer (some ⟨w.heap.size, 3, none⟩)) rfl (by kernel_rfl) (by kernel_rfl) (by kernel_rfl) (fun _ _ _ h => h) (Or.inl ⟨by rfl, ?_⟩) hHeld ?_
  ·intro w9 hSw
   go_simp
  simp only [Act.put, sA, sB, sC, sD, sE, sF]
  refine wpAnyH_take (i := 8) (v := .slice (some ⟨bk, o, none⟩) x.d.needs.length x.nc) rfl (by kernel_rfl) (by kernel_rfl) (by kernel_rfl) (fun _ _ _ h => h) (Or.inl ⟨by rfl, ?_⟩) hHeld ?_
  ·intro w9 hSw
   have hcc := HN3.out w9 hSw
   go_simp
  simp only [Act.put, sA, sB, sC, sD, sE, sF]
  refine wpAnyH_take (i := 9) (v := .int .i64 (j : Int)) rfl (by kernel_rfl) (by kernel_rfl) (by kernel_rfl) (fun _ _ _ h => h) (Or.inl ⟨by rfl, ?_⟩) hHeld ?_
  ·intro w9 hSw
   go_simp
  simp only [Act.put, sA, sB, sC, sD, sE, sF]
  refine wpAnyH_take (i := 10) (v := .pointer (some ⟨bk, o + j * 2, none⟩)) rfl (by kernel_rfl) (by kernel_rfl) (by kernel_rfl) (fun _ _ _ h => h) (Or.inl ⟨by rfl, ?_⟩) hHeld ?_
  ·intro w9 hSw
   go_simp
  simp only [Act.put, sA, sB, sC, sD, sE, sF]
  refine wpAnyH_take (i := 11) (v := .pointer (some ⟨bk, o + j * 2 + 1, none⟩)) rfl (by kernel_rfl) (by kernel_rfl) (by kernel_rfl) (fun _ _ _ h => h) (Or.inl ⟨by rfl, ?_⟩) hHeld ?_
  ·intro w9 hSw
   go_simp
  simp only [Act.put, sA, sB, sC, sD, sE, sF]
  refine wpAnyH_take (i := 12) (v := .int .i64 n.kind) rfl (by kernel_rfl) (by kernel_rfl) (by kernel_rfl) (fun _ _ _ h => h) (Or.inl ⟨by rfl, ?_⟩) hHeld ?_
  ·intro w9 hSw
   have hcc := (HPN.out w9 hSw).2
   go_simp
  simp only [Act.put, sA, sB, sC, sD, sE, sF]
  refine wpAnyH_take (i := 13) (v := .agg #[.string n.name, .int .i64 n.kind]) rfl (by kernel_rfl) (by kernel_rfl) (by kernel_rfl) (fun _ _ _ h => h) (Or.inl ⟨by rfl, ?_⟩) hHeld ?_
  ·intro w9 hSw
   go_simp
  simp only [Act.put, sA, sB, sC, sD, sE, sF]
  refine wpAnyH_ready (rs := [14]) (by kernel_rfl) (by simp) ?_
  refine AllReadyH.cons rfl (fun K hK => ?_) AllReadyH.nil
  go_simp
  refine hK.out _ _ (show Hid (Below W1.heap.size W1 _) from hHeld.out.trans ((new_below V0 _).mono hHeld.out.size)) (fun h1 => ?_)
  clear hK K h1
  try simp only [Act.put, sA, sB, sC, sD, sE, sF]
  have HBZ := Lib.hid hHeld.out.size
  have HNN := Lib.hid (show j ≤ 2000000 by have := HLT.out; have := HS.out.ln; omega)
  refine wpAnyH_ready (rs := [15]) (by kernel_rfl) (by simp) ?_
  refine AllReadyH.cons rfl (fun K hK => ?_) AllReadyH.nil
  rw [if_pos (by rfl)]
  refine op_append_own 34 103 2 Tryz.underlying34 info_need (by decide) _ _ rfl (news := [.string n.name, .int .i64 n.kind]) HOV.out HBZ.out HNN.out rfl rfl rfl rfl ?_
  intro ao5 c5 w5 hown hbel
  have HO5 := Lib.hid hown
  refine hK.out _ _ (show Hid (Below W1.heap.size W1 w5) from hHeld.out.trans hbel) (fun h1 => ?_)
  clear hK K hown hbel
  try simp only [Act.put, sA, sB, sC, sD, sE, sF]
  have h2 := hHeld
  clear hHeld
  have hHeld := h1
  clear h1
  refine wpAnyH_take (i := 16) (v := .slice ao5 (j + 1) c5) rfl (by kernel_rfl) (by kernel_rfl) (by kernel_rfl) (fun _ _ _ h => h) (Or.inl ⟨by rfl, ?_⟩) hHeld ?_
  ·intro w9 hSw
   go_simp
  simp only [Act.put, sA, sB, sC, sD, sE, sF]
  refine wpAnyH_done (by kernel_rfl) ?_ _
  go_wp2_with fail
  go_roundw
  case rel => exact ⟨j + 1, ao5, c5, HLT.out, rfl, by go_num, hHeld.out, by
    have e : (x.d.needs.take (j + 1)).flatMap NeedD.cells = (x.d.needs.take j).flatMap NeedD.cells ++ [.string n.name, .int .i64 n.kind] := by rw [List.take_add_one, HJ.out]; simp [NeedD.cells]
    rw [e]
    exact HO5.out⟩
  case measure => have := HLT.out; simp only [intOf]; omega
end Go.Proofs.YtgimdkgjfenafaaGreatDoor
