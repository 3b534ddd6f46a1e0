import Derived.Test.YtgimdkgjfenafaaGreatDoorCG22
import Derived.Test.YtgimdkgjfenafaaGreatDoorCG25
import Derived.Test.YtgimdkgjfenafaaGreatDoorCG03
namespace Go.Proofs.YtgimdkgjfenafaaGreatDoor
open Go.RowKit
def preB (nm : ByteArray) : ByteArray := ⟨(Lib.cut nm.data.toList [46]).1.toArray⟩
def ownB (nm : ByteArray) : ByteArray := ⟨(Lib.cut nm.data.toList [46]).2.1.toArray⟩
def findD (ds : List DefD) (s : ByteArray) : Option DefD := ds.find? fun d => d.name.toList == s.toList
def defnOf (xs : List DiaD) (nm : ByteArray) : Option DefD := match coreFind (preB nm) with
 | some ds => findD ds (ownB nm)
 | none => match xs.find? (fun x => x.name.toList == (preB nm).toList) with
  | some x => findD x.ops (ownB nm)
  | none => none
theorem find_els {es : List DEl} {s : ByteArray} : (es.find? (fun y : DEl => y.d.name.toList == s.toList)).map (·.d) = findD (es.map (·.d)) s := by
 unfold findD
 rw [List.find?_map]
 rfl
theorem find_xels {xs : List XEl} {s : ByteArray} : (xs.find? (fun y : XEl => y.name.toList == s.toList)).map XEl.d = (xs.map XEl.d).find? (fun x => x.name.toList == s.toList) := by
 rw [List.find?_map]
 rfl
def DefnPost (xs : List DiaD) (nm : ByteArray) (w : World) (e : Ending) (w' : World) : Prop := Below w.heap.size w w' ∧
 ((∃ y : DEl, defnOf xs nm = some y.d ∧ DefOK w' y ∧ e = .returned (.tuple #[.agg #[.string y.d.name, .slice y.io y.d.ins.length y.ic, .slice y.oo y.d.outs.length y.oc, .slice y.no y.d.needs.length y.nc, .int .i64 y.d.regions, .int .i64 y.d.succs, .slice y.ko y.d.traits.length y.kc], .bool true])) ∨ (defnOf xs nm = none ∧ e = .returned (.tuple #[.agg #[.string ⟨#[]⟩, .slice none 0 0, .slice none 0 0, .slice none 0 0, .int .i64 0, .int .i64 0, .slice none 0 0], .bool false])))
theorem above_into {M : Nat} {w w' : World} (h : ∀ k, M ≤ k → k < w.heap.size → w'.heap[k]? = w.heap[k]?) : Keeps (above M w) w' :=
 (mask_keeps (q := fun _ => true) fun k hp hk => ⟨rfl, h k (of_decide_eq_true hp) hk⟩).trans mask_to
theorem core_len {p : ByteArray} {ds : List DefD} (h : coreFind p = some ds) : ds.length ≤ 20 := by
 unfold coreFind at h
 cases hf : coreTab.find? (fun x => p.toList == x.1) with
 | none => rw [hf] at h; cases h
 | some x =>
  rw [hf] at h
  have hm := List.mem_of_find?_eq_some hf
  have he : x.2 = ds := Option.some.inj h
  subst he
  simp only [coreTab, List.mem_cons, List.not_mem_nil, or_false] at hm
  rcases hm with rfl | rfl | rfl | rfl | rfl | rfl | rfl <;> decide
set_option maxHeartbeats 8000000 in
set_option maxRecDepth 100000 in
theorem definition_any (lo : Option Addr) (xs : List XEl) (lc : Nat) (hn : xs.length ≤ 9223372036854775807) (hops : ∀ x ∈ xs, x.ops.length ≤ 9223372036854775807) (nm : ByteArray) (hs : nm.size < 4294967281) (w : World) (hE : Env w) (hl : DiasAt w lo xs) :
  Calls Tryz.prog 45 #[.slice lo xs.length lc, .string nm] w (DefnPost (xs.map XEl.d) nm w) := by
 have HE := Lib.hid hE
 have HL := Lib.hid hl
 have HN := Lib.hid hn
 have HOPS := Lib.hid hops
 have HSZ := Lib.hid hs
 clear hE hl hn hs hops
 obtain ⟨W1, hW1⟩ : ∃ W1, W1 = w.alloc (.cells #[.string ⟨#[]⟩, .slice none 0 0, .slice none 0 0, .slice none 0 0, .int .i64 0, .int .i64 0, .slice none 0 0] 36) := ⟨_, rfl⟩
 have T1 : Hid (W1.heap[w.heap.size]? = some (.cells #[.string ⟨#[]⟩, .slice none 0 0, .slice none 0 0, .slice none 0 0, .int .i64 0, .int .i64 0, .slice none 0 0] 36 (0, 0))) := by
  show W1.heap[w.heap.size]? = _
  rw [hW1]
  exact heap_alloc_new _ _
 have B1 : Hid (Below w.heap.size w W1 ∧ w.heap.size < W1.heap.size) := by
  show Below _ _ _ ∧ _
  rw [hW1]
  exact ⟨(Below.refl _ w).alloc (Nat.le_refl _) _, by simp⟩
 go_enter Tryz.func45, Tryz.ntmps45
 go_wp2_with fail
 rw [← hW1]
 clear hW1
 obtain ⟨mx, hmx⟩ := mx_cell (HE.out.below B1.out.1)
 refine (Tryz.strings_Cut nm ⟨#[46]⟩ mx W1 HSZ.out hmx).mono ?_
 rintro e w2 ⟨rfl, n, rfl⟩
 have HB2 := Lib.hid (drawn_same (Below.refl W1.heap.size W1) n)
 clear hmx
 obtain ⟨p, hp⟩ : ∃ p, p = preB nm := ⟨_, rfl⟩
 obtain ⟨q, hq⟩ : ∃ q, q = ownB nm := ⟨_, rfl⟩
 rw [show (⟨(Lib.cut nm.data.toList (⟨#[46]⟩ : ByteArray).data.toList).1.toArray⟩ : ByteArray) = p from hp.symm, show (⟨(Lib.cut nm.data.toList (⟨#[46]⟩ : ByteArray).data.toList).2.1.toArray⟩ : ByteArray) = q from hq.symm]
 have HP := Lib.hid hp
 have HQ := Lib.hid hq
 clear hp hq
 generalize (Lib.cut nm.data.toList (⟨#[46]⟩ : ByteArray).data.toList).2.2 = okc
 generalize W1.drewN n = W2 at HB2 ⊢
 go_wp2_with fail
 refine (coreDialect_any p W2).mono ?_
 rintro e w3 ⟨hb, (⟨ds, es, po, pc, hf, hes, hd, hpc, rfl⟩ | ⟨hf, rfl⟩)⟩
 ·have HB3 := Lib.hid (HB2.out.trans (hb.mono HB2.out.size))
  have HF := Lib.hid hf
  have HES := Lib.hid hes
  have HDS := Lib.hid (hd.keeps above_to)
  have HDA := Lib.hid hd
  clear hf hes hd hpc hb
  go_upto_region 3 with fail
  have HNB := Lib.hid (new_below w3 (.cells #[.string p, .slice none 0 0, .slice po es.length pc] 90))
  have HT := Lib.hid (heap_alloc_new w3 (.cells #[.string p, .slice none 0 0, .slice po es.length pc] 90))
  generalize w3.alloc (.cells #[.string p, .slice none 0 0, .slice po es.length pc] 90) = W4 at HNB HT ⊢
  have HB4 := Lib.hid (HB3.out.trans (HNB.out.mono HB3.out.size))
  have HDS4 := Lib.hid (HDS.out.below HNB.out)
  generalize w3.heap.size = D at HT ⊢
  obtain ⟨c0, c1, c2, cf⟩ := cells3 HT.out
  have HLN := Lib.hid (show es.length ≤ 9223372036854775807 by have h1 := congrArg List.length HES.out; rw [List.length_map] at h1; have h2 := core_len HF.out; omega)
  go_wp2_with fail
  clear c0 c1 c2 cf
  refine (searchDef_any po es pc q HLN.out W4 HDS4.out.1).mono ?_
  rintro e w5 ⟨hb, (⟨x, hx, rfl⟩ | ⟨hx, rfl⟩)⟩
  ·have HB5 := Lib.hid (HB4.out.trans (hb.mono HB4.out.size))
   have T5 := Lib.hid ((HB5.out.block _ (lt_of_block T1.out)).trans T1.out)
   have HX := Lib.hid (show defnOf (xs.map XEl.d) nm = some x.d by unfold defnOf; rw [← HP.out, ← HQ.out, HF.out]; show findD ds q = _; rw [← HES.out, ← find_els, hx]; rfl)
   have HXO := Lib.hid (fun W (hk : Keeps (above W2.heap.size w3) W) => (HDA.out.2 x (List.mem_of_find?_eq_some hx)).keeps hk)
   have HS5 := Lib.hid hb
   obtain ⟨c0, c1, c2, c3, c4, c5, c6, cf⟩ := dcells7 T5.out
   clear hb hx
   go_wp2_with fail
   refine bodyPost_ret (v := .tuple #[.agg #[.string x.d.name, .slice x.io x.d.ins.length x.ic, .slice x.oo x.d.outs.length x.oc, .slice x.no x.d.needs.length x.nc, .int .i64 x.d.regions, .int .i64 x.d.succs, .slice x.ko x.d.traits.length x.kc], .bool true]) (results_cell_tmp Tryz.results45 rfl rfl (pdefVar (dset7_block T5.out))) rfl ?_
   exact ⟨dbelow_set7 (B1.out.1.trans (HB5.out.mono B1.out.1.size)) (Nat.le_refl _), .inl ⟨x, HX.out, HXO.out _ (above_into fun k hk hlt => by rw [dset7_other (by have := B1.out.2; have := HB2.out.size; omega), HS5.out.block _ (Nat.lt_of_lt_of_le hlt HNB.out.size), HNB.out.block _ hlt]), rfl⟩⟩
  ·have HB5 := Lib.hid (HB4.out.trans (hb.mono HB4.out.size))
   have T5 := Lib.hid ((HB5.out.block _ (lt_of_block T1.out)).trans T1.out)
   have HX := Lib.hid (show defnOf (xs.map XEl.d) nm = none by unfold defnOf; rw [← HP.out, ← HQ.out, HF.out]; show findD ds q = _; rw [← HES.out, ← find_els, hx]; rfl)
   obtain ⟨c0, c1, c2, c3, c4, c5, c6, cf⟩ := dcells7 T5.out
   clear hb hx
   go_wp2_with fail
   refine bodyPost_ret (v := .tuple #[.agg #[.string ⟨#[]⟩, .slice none 0 0, .slice none 0 0, .slice none 0 0, .int .i64 0, .int .i64 0, .slice none 0 0], .bool false]) (results_cell_tmp Tryz.results45 rfl rfl (pdefVar (dset7_block T5.out))) rfl ?_
   exact ⟨dbelow_set7 (B1.out.1.trans (HB5.out.mono B1.out.1.size)) (Nat.le_refl _), .inr ⟨HX.out, rfl⟩⟩
 ·have HB3 := Lib.hid (HB2.out.trans (hb.mono HB2.out.size))
  have HF := Lib.hid hf
  clear hf hb
  go_upto_region 3 with fail
  have HNB := Lib.hid (new_below w3 (.cells #[.string ⟨#[]⟩, .slice none 0 0, .slice none 0 0] 90))
  have HT := Lib.hid (heap_alloc_new w3 (.cells #[.string ⟨#[]⟩, .slice none 0 0, .slice none 0 0] 90))
  generalize w3.alloc (.cells #[.string ⟨#[]⟩, .slice none 0 0, .slice none 0 0] 90) = W4 at HNB HT ⊢
  have HDW1 := Lib.hid (show W1.heap.size ≤ w3.heap.size from HB3.out.size)
  have HB4 := Lib.hid (HB3.out.trans (HNB.out.mono HB3.out.size))
  have HL4 := Lib.hid (HL.out.keeps (Keeps.of_below (B1.out.1.trans (HB4.out.mono B1.out.1.size))))
  clear HNB
  generalize w3.heap.size = D at HT HDW1 ⊢
  go_wp2_with fail
  refine (searchDialect_any lo xs lc p HN.out W4 HL4.out.1).mono ?_
  rintro e w5 ⟨hb, (⟨x, hx, rfl⟩ | ⟨hx, rfl⟩)⟩
  ·have HB5 := Lib.hid (HB4.out.trans (hb.mono HB4.out.size))
   have HT5 := Lib.hid ((hb.block _ (lt_of_block HT.out)).trans HT.out)
   have HXM := Lib.hid (HL.out.2 x (List.mem_of_find?_eq_some hx))
   have HXL := Lib.hid (HOPS.out x (List.mem_of_find?_eq_some hx))
   have HXF := Lib.hid (show (xs.map XEl.d).find? (fun x => x.name.toList == p.toList) = some x.d by rw [← find_xels, hx]; rfl)
   clear hb hx
   obtain ⟨c0, c1, c2, cf⟩ := cells3 HT5.out
   go_upto_region 5 with fail
   have HT6 := Lib.hid (set3_block (u0 := (.string x.name)) (u1 := (.slice x.yo x.types.length x.yc)) (u2 := (.slice x.po x.ops.length x.pc)) HT5.out)
   have HB6 := Lib.hid (below_set3 HB5.out (b := D) (u0 := (.string x.name)) (u1 := (.slice x.yo x.types.length x.yc)) (u2 := (.slice x.po x.ops.length x.pc)) HDW1.out)
   generalize ((w5.setCell ⟨D, 0, none⟩ (.string x.name)).setCell ⟨D, 1, none⟩ (.slice x.yo x.types.length x.yc)).setCell ⟨D, 2, none⟩ (.slice x.po x.ops.length x.pc) = W6 at HT6 HB6 ⊢
   clear c0 c1 c2 cf
   obtain ⟨c0, c1, c2, cf⟩ := cells3 HT6.out
   go_wp2_with fail
   clear c0 c1 c2 cf
   obtain ⟨y, hy⟩ : ∃ y, y = x := ⟨_, rfl⟩
   have HLY := Lib.hid (show y.ops.length ≤ 9223372036854775807 by rw [hy]; exact HXL.out)
   have HDY := Lib.hid (show DefsAt W6 y.po y.ops from by rw [hy]; exact HXM.out.ops.keeps (Keeps.of_below (B1.out.1.trans (HB6.out.mono B1.out.1.size))))
   have HYM := Lib.hid (show DefsAt w y.po y.ops from by rw [hy]; exact HXM.out.ops)
   have HYF := Lib.hid (show (xs.map XEl.d).find? (fun x => x.name.toList == p.toList) = some y.d by rw [hy]; exact HXF.out)
   rw [← hy]
   clear hy HXM HXF HXL
   refine (searchDef_any y.po y.ops y.pc q HLY.out W6 HDY.out.1).mono ?_
   rintro e w7 ⟨hb, (⟨x, hx, rfl⟩ | ⟨hx, rfl⟩)⟩
   ·have HB5 := Lib.hid (HB6.out.trans (hb.mono HB6.out.size))
    have T5 := Lib.hid ((HB5.out.block _ (lt_of_block T1.out)).trans T1.out)
    have HX := Lib.hid (show defnOf (xs.map XEl.d) nm = some x.d by unfold defnOf; rw [← HP.out, ← HQ.out, HF.out]; show (match (xs.map XEl.d).find? (fun x => x.name.toList == p.toList) with | some x => findD x.ops q | none => none) = _; rw [HYF.out]; show findD (y.ops.map (·.d)) q = _; rw [← find_els, hx]; rfl)
    have HXO := Lib.hid (fun W (hk : Keeps w W) => (HYM.out.2 x (List.mem_of_find?_eq_some hx)).keeps hk)
    have HS5 := Lib.hid hb
    obtain ⟨c0, c1, c2, c3, c4, c5, c6, cf⟩ := dcells7 T5.out
    clear hb hx
    go_wp2_with fail
    refine bodyPost_ret (v := .tuple #[.agg #[.string x.d.name, .slice x.io x.d.ins.length x.ic, .slice x.oo x.d.outs.length x.oc, .slice x.no x.d.needs.length x.nc, .int .i64 x.d.regions, .int .i64 x.d.succs, .slice x.ko x.d.traits.length x.kc], .bool true]) (results_cell_tmp Tryz.results45 rfl rfl (pdefVar (dset7_block T5.out))) rfl ?_
    exact ⟨dbelow_set7 (B1.out.1.trans (HB5.out.mono B1.out.1.size)) (Nat.le_refl _), .inl ⟨x, HX.out, HXO.out _ (Keeps.of_below (dbelow_set7 (B1.out.1.trans (HB5.out.mono B1.out.1.size)) (Nat.le_refl _))), rfl⟩⟩
   ·have HB5 := Lib.hid (HB6.out.trans (hb.mono HB6.out.size))
    have T5 := Lib.hid ((HB5.out.block _ (lt_of_block T1.out)).trans T1.out)
    have HX := Lib.hid (show defnOf (xs.map XEl.d) nm = none by unfold defnOf; rw [← HP.out, ← HQ.out, HF.out]; show (match (xs.map XEl.d).find? (fun x => x.name.toList == p.toList) with | some x => findD x.ops q | none => none) = _; rw [HYF.out]; show findD (y.ops.map (·.d)) q = _; rw [← find_els, hx]; rfl)
    obtain ⟨c0, c1, c2, c3, c4, c5, c6, cf⟩ := dcells7 T5.out
    clear hb hx
    go_wp2_with fail
    refine bodyPost_ret (v := .tuple #[.agg #[.string ⟨#[]⟩, .slice none 0 0, .slice none 0 0, .slice none 0 0, .int .i64 0, .int .i64 0, .slice none 0 0], .bool false]) (results_cell_tmp Tryz.results45 rfl rfl (pdefVar (dset7_block T5.out))) rfl ?_
    exact ⟨dbelow_set7 (B1.out.1.trans (HB5.out.mono B1.out.1.size)) (Nat.le_refl _), .inr ⟨HX.out, rfl⟩⟩
  ·have HB5 := Lib.hid (HB4.out.trans (hb.mono HB4.out.size))
   have HT5 := Lib.hid ((hb.block _ (lt_of_block HT.out)).trans HT.out)
   have HXF := Lib.hid (show (xs.map XEl.d).find? (fun x => x.name.toList == p.toList) = none by rw [← find_xels, hx]; rfl)
   clear hb hx
   obtain ⟨c0, c1, c2, cf⟩ := cells3 HT5.out
   go_upto_region 5 with fail
   have HT6 := Lib.hid (set3_block (u0 := (.string ⟨#[]⟩)) (u1 := (.slice none 0 0)) (u2 := (.slice none 0 0)) HT5.out)
   have HB6 := Lib.hid (below_set3 HB5.out (b := D) (u0 := (.string ⟨#[]⟩)) (u1 := (.slice none 0 0)) (u2 := (.slice none 0 0)) HDW1.out)
   generalize ((w5.setCell ⟨D, 0, none⟩ (.string ⟨#[]⟩)).setCell ⟨D, 1, none⟩ (.slice none 0 0)).setCell ⟨D, 2, none⟩ (.slice none 0 0) = W6 at HT6 HB6 ⊢
   clear c0 c1 c2 cf
   obtain ⟨c0, c1, c2, cf⟩ := cells3 HT6.out
   go_wp2_with fail
   clear c0 c1 c2 cf
   refine (searchDef_any none [] 0 q (Nat.zero_le _) W6 (.inl rfl)).mono ?_
   rintro e w7 ⟨hb, (⟨x, hx, rfl⟩ | ⟨hx, rfl⟩)⟩
   ·cases hx
   ·have HB7 := Lib.hid (HB6.out.trans (hb.mono HB6.out.size))
    have T5 := Lib.hid ((HB7.out.block _ (lt_of_block T1.out)).trans T1.out)
    have HX := Lib.hid (show defnOf (xs.map XEl.d) nm = none by unfold defnOf; rw [← HP.out, ← HQ.out, HF.out]; show (match (xs.map XEl.d).find? (fun x => x.name.toList == p.toList) with | some x => findD x.ops q | none => none) = _; rw [HXF.out])
    obtain ⟨c0, c1, c2, c3, c4, c5, c6, cf⟩ := dcells7 T5.out
    clear hb hx
    go_wp2_with fail
    refine bodyPost_ret (v := .tuple #[.agg #[.string ⟨#[]⟩, .slice none 0 0, .slice none 0 0, .slice none 0 0, .int .i64 0, .int .i64 0, .slice none 0 0], .bool false]) (results_cell_tmp Tryz.results45 rfl rfl (pdefVar (dset7_block T5.out))) rfl ?_
    exact ⟨dbelow_set7 (B1.out.1.trans (HB7.out.mono B1.out.1.size)) (Nat.le_refl _), .inr ⟨HX.out, rfl⟩⟩
end Go.Proofs.YtgimdkgjfenafaaGreatDoor
