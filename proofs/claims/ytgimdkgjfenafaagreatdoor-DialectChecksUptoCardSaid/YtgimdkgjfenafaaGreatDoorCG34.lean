import Derived.Test.YtgimdkgjfenafaaGreatDoorCG31
import Derived.Test.YtgimdkgjfenafaaGreatDoorCG32
import Derived.Test.YtgimdkgjfenafaaGreatDoorCG33
namespace Go.Proofs.YtgimdkgjfenafaaGreatDoor
open Go.RowKit
def rankT (s : ByteArray) : Nat := (traitsL.map (·.data.toList)).idxOf s.data.toList
theorem rank_rise : ∀ a ∈ traitsL, ∀ b ∈ traitsL, Op.bytesLess a.data.toList b.data.toList = true → rankT a < rankT b := by
 have h : (traitsL.all fun a => traitsL.all fun b => !Op.bytesLess a.data.toList b.data.toList || decide (rankT a < rankT b)) = true := by decide
 intro a ha b hb hl
 have h1 := List.all_eq_true.1 (List.all_eq_true.1 h a ha) b hb
 rw [hl] at h1
 simpa using h1
theorem rank_lt : ∀ a ∈ traitsL, rankT a < 9 := by
 have h : (traitsL.all fun a => decide (rankT a < 9)) = true := by decide
 intro a ha
 simpa using List.all_eq_true.1 h a ha
theorem trait_in {s : ByteArray} (h : isIn allTraitsL s = true) : s ∈ traitsL := by
 have := (isIn_iff _ _).1 h
 simp only [allTraitsL, traitsL, List.mem_cons, List.not_mem_nil, or_false] at this ⊢
 rcases this with h | h | h | h | h | h | h | h | h <;> simp [h]
theorem traits_short {l : List ByteArray} (h : rightTraitsL l = true) : l.length ≤ 9 := by
 unfold rightTraitsL at h
 simp only [Bool.and_eq_true] at h
 obtain ⟨⟨hr, ha⟩, -⟩ := h
 have hin : ∀ k, k < l.length → nthB l k ∈ traitsL := fun k hk => by
  unfold nthB
  rw [List.getElem?_eq_getElem hk]
  exact trait_in (List.all_eq_true.1 ha _ (List.getElem_mem hk))
 have hrk : ∀ k, k < l.length → k ≤ rankT (nthB l k) := by
  intro k
  induction k with
  | zero => intro _; exact Nat.zero_le _
  | succ k ih =>
   intro hk
   have h1 := ih (by omega)
   have h2 := List.all_eq_true.1 hr (k + 1) (List.mem_range.2 hk)
   unfold riseAt at h2
   rw [show (k + 1 == 0) = false from rfl, Bool.false_or, Nat.add_sub_cancel, ByteArray.toList_eq, ByteArray.toList_eq] at h2
   have h3 := rank_rise _ (hin k (by omega)) _ (hin (k + 1) hk) h2
   omega
 rcases Nat.lt_or_ge 9 l.length with h9 | h9
 ·have h1 := hrk 9 h9
  have h2 := rank_lt _ (hin 9 h9)
  omega
 ·exact h9
theorem rightD_short {d : DefD} (h : rightD d = true) : DefShort d := by
 have hs := rightD_long (rightD_signed h)
 unfold rightD at h
 simp only [Bool.and_eq_true] at h
 have hn : rightNeedsL d.needs = true := h.1.1.1.1.1.1.1.1.2
 have ht : rightTraitsL d.traits = true := h.1.1.2
 unfold rightNeedsL at hn
 simp only [Bool.and_eq_true, decide_eq_true_eq] at hn
 have := traits_short ht
 exact ⟨by omega, by omega, by omega, by omega⟩
def shortB (d : DefD) : Bool := decide (d.ins.length ≤ 1000000) && decide (d.outs.length ≤ 1000000) && decide (d.needs.length ≤ 1000000) && decide (d.traits.length ≤ 1000000)
theorem short_of {d : DefD} (h : shortB d = true) : DefShort d := by
 unfold shortB at h
 simp only [Bool.and_eq_true, decide_eq_true_eq] at h
 exact ⟨h.1.1.1, h.1.1.2, h.1.2, h.2⟩
theorem core_short {p : ByteArray} {ds : List DefD} (h : coreFind p = some ds) : ∀ d ∈ ds, DefShort d := by
 have ha : (coreTab.all fun x => x.2.all shortB) = true := by decide
 unfold coreFind at h
 cases hf : coreTab.find? (fun x => p.toList == x.1) with
 | none => rw [hf] at h; cases h
 | some x =>
  rw [hf] at h
  have hm := List.mem_of_find?_eq_some hf
  have he : x.2 = ds := Option.some.inj h
  subst he
  intro d hd
  exact short_of (List.all_eq_true.1 (List.all_eq_true.1 ha x hm) d hd)
theorem defn_short {xs : List DiaD} {nm : ByteArray} {d : DefD} (hr : rightXs xs = true) (h : defnOf xs nm = some d) : DefShort d := by
 unfold defnOf at h
 cases hc : coreFind (preB nm) with
 | some ds =>
  rw [hc] at h
  exact core_short hc d (List.mem_of_find?_eq_some h)
 | none =>
  rw [hc] at h
  cases hf : xs.find? (fun x => x.name.toList == (preB nm).toList) with
  | none => rw [hf] at h; cases h
  | some x =>
   rw [hf] at h
   have hm := List.mem_of_find?_eq_some hf
   unfold rightXs at hr
   simp only [Bool.and_eq_true] at hr
   have hg := List.all_eq_true.1 hr.2 x hm
   unfold goodX rightX at hg
   simp only [Bool.and_eq_true] at hg
   have hd : d ∈ x.ops := List.mem_of_find?_eq_some h
   exact rightD_short (List.all_eq_true.1 hg.2.1.1.2 d hd)
def FindP (xs : List DiaD) (nm : ByteArray) (w : World) (e : Ending) (w' : World) : Prop := Below w.heap.size w w' ∧
 ((rightXs xs = false ∧ e = .returned (.tuple #[.agg #[.string ⟨#[]⟩, .slice none 0 0, .slice none 0 0, .slice none 0 0, .int .i64 0, .int .i64 0, .slice none 0 0], .int .i64 50])) ∨ (rightXs xs = true ∧ defnOf xs nm = none ∧ e = .returned (.tuple #[.agg #[.string ⟨#[]⟩, .slice none 0 0, .slice none 0 0, .slice none 0 0, .int .i64 0, .int .i64 0, .slice none 0 0], .int .i64 4])) ∨
  (rightXs xs = true ∧ ∃ y : DEl, defnOf xs nm = some y.d ∧ DefOK w' y ∧ e = .returned (.tuple #[y.val, .int .i64 0])))
set_option maxHeartbeats 8000000 in
set_option maxRecDepth 100000 in
theorem Find_any (lo : Option Addr) (xs : List XEl) (lc : Nat) (hn : xs.length ≤ 9223372036854775806) (hf : ∀ x ∈ xs, DiaFit x.d) (nm : ByteArray) (hs : nm.size < 4294967281) (w : World) (hl : DiasAt w lo xs) (hE : Env w) :
  Calls Tryz.prog 19 #[.slice lo xs.length lc, .string nm] w (FindP (xs.map XEl.d) nm w) := by
 obtain ⟨W1, hW1⟩ : ∃ W1, W1 = w.alloc (.cells #[.string ⟨#[]⟩, .slice none 0 0, .slice none 0 0, .slice none 0 0, .int .i64 0, .int .i64 0, .slice none 0 0] 36) := ⟨_, rfl⟩
 have T1 : Hid (W1.heap[w.heap.size]? = some (.cells #[.string ⟨#[]⟩, .slice none 0 0, .slice none 0 0, .slice none 0 0, .int .i64 0, .int .i64 0, .slice none 0 0] 36 (0, 0))) := by
  show W1.heap[_]? = _
  rw [hW1]
  exact heap_alloc_new _ _
 have B1 : Hid (Below w.heap.size w W1) := by
  show Below _ _ _
  rw [hW1]
  exact new_below _ _
 have HM := Lib.hid (show w.heap.size < W1.heap.size from lt_of_block T1.out)
 have HC := Lib.hid (isRightList_any lo xs lc hn hf W1 (hl.below B1.out) (hE.below B1.out))
 have HOP : Hid (∀ x ∈ xs, x.ops.length ≤ 9223372036854775807) := fun x hx => by
  have h := (hf x hx).lp
  have e : x.d.ops = x.ops.map (·.d) := rfl
  rw [e, List.length_map] at h
  omega
 have HN := Lib.hid hn
 have HL := Lib.hid hl
 have HE := Lib.hid hE
 have HSZ := Lib.hid hs
 clear hn hf hl hE hs
 go_enter Tryz.func19, Tryz.ntmps19
 go_upto_region 1 with fail
 rw [← hW1]
 clear hW1
 go_wp2_with fail
 refine HC.out.mono ?_
 rintro e w2 ⟨rfl, hb⟩
 have T2 := Lib.hid ((hb.block _ (lt_of_block T1.out)).trans T1.out)
 have B2 := Lib.hid (B1.out.trans (hb.mono B1.out.size))
 have HM2 := Lib.hid (Nat.lt_of_lt_of_le HM.out hb.size)
 clear hb HC T1
 obtain ⟨g0, g1, g2, g3, g4, g5, g6, gf⟩ := dcells7 T2.out
 cases hr : rightXs (xs.map XEl.d)
 ·have HR := Lib.hid hr
  clear hr
  go_wp2_with fail
  refine bodyPost_ret (v := .tuple #[.agg #[.string ⟨#[]⟩, .slice none 0 0, .slice none 0 0, .slice none 0 0, .int .i64 0, .int .i64 0, .slice none 0 0], .int .i64 50]) (results_cell_tmp Tryz.results19 rfl rfl (pdefVar (dset7_block T2.out))) rfl ?_
  exact ⟨dbelow_set7 B2.out (Nat.le_refl _), .inl ⟨HR.out, rfl⟩⟩
 have HR := Lib.hid hr
 clear hr
 go_wp2_with fail
 refine (definition_any lo xs lc (by have := HN.out; omega) HOP.out nm HSZ.out w2 (HE.out.below B2.out) (HL.out.below B2.out)).mono ?_
 rintro e w3 ⟨hb, (⟨y, hy, hyo, rfl⟩ | ⟨hy, rfl⟩)⟩
 rotate_left
 ·have HY := Lib.hid hy
  have T4 := Lib.hid (((new_below w3 (.cells #[.string ⟨#[]⟩, .slice none 0 0, .slice none 0 0, .slice none 0 0, .int .i64 0, .int .i64 0, .slice none 0 0] 36)).block _ (Nat.lt_of_lt_of_le (lt_of_block T2.out) hb.size)).trans ((hb.block _ (lt_of_block T2.out)).trans T2.out))
  have B4 := Lib.hid ((B2.out.trans (hb.mono B2.out.size)).trans ((new_below w3 (.cells #[.string ⟨#[]⟩, .slice none 0 0, .slice none 0 0, .slice none 0 0, .int .i64 0, .int .i64 0, .slice none 0 0] 36)).mono (Nat.le_trans B2.out.size hb.size)))
  clear hb hy g0 g1 g2 g3 g4 g5 g6 gf
  go_upto_region 4 with fail
  generalize w3.alloc (.cells #[.string ⟨#[]⟩, .slice none 0 0, .slice none 0 0, .slice none 0 0, .int .i64 0, .int .i64 0, .slice none 0 0] 36) = W4 at T4 B4 ⊢
  obtain ⟨g0, g1, g2, g3, g4, g5, g6, gf⟩ := dcells7 T4.out
  go_wp2_with fail
  refine bodyPost_ret (v := .tuple #[.agg #[.string ⟨#[]⟩, .slice none 0 0, .slice none 0 0, .slice none 0 0, .int .i64 0, .int .i64 0, .slice none 0 0], .int .i64 4]) (results_cell_tmp Tryz.results19 rfl rfl (pdefVar (dset7_block T4.out))) rfl ?_
  exact ⟨dbelow_set7 B4.out (Nat.le_refl _), .inr (.inl ⟨HR.out, HY.out, rfl⟩)⟩
 have HY := Lib.hid hy
 have HT := Lib.hid (heap_alloc_new w3 (.cells #[.string y.d.name, .slice y.io y.d.ins.length y.ic, .slice y.oo y.d.outs.length y.oc, .slice y.no y.d.needs.length y.nc, .int .i64 y.d.regions, .int .i64 y.d.succs, .slice y.ko y.d.traits.length y.kc] 36))
 have T4 := Lib.hid (((new_below w3 (.cells #[.string y.d.name, .slice y.io y.d.ins.length y.ic, .slice y.oo y.d.outs.length y.oc, .slice y.no y.d.needs.length y.nc, .int .i64 y.d.regions, .int .i64 y.d.succs, .slice y.ko y.d.traits.length y.kc] 36)).block _ (Nat.lt_of_lt_of_le (lt_of_block T2.out) hb.size)).trans ((hb.block _ (lt_of_block T2.out)).trans T2.out))
 have B4 := Lib.hid ((B2.out.trans (hb.mono B2.out.size)).trans ((new_below w3 (.cells #[.string y.d.name, .slice y.io y.d.ins.length y.ic, .slice y.oo y.d.outs.length y.oc, .slice y.no y.d.needs.length y.nc, .int .i64 y.d.regions, .int .i64 y.d.succs, .slice y.ko y.d.traits.length y.kc] 36)).mono (Nat.le_trans B2.out.size hb.size)))
 have HYO := Lib.hid (hyo.below (new_below w3 (.cells #[.string y.d.name, .slice y.io y.d.ins.length y.ic, .slice y.oo y.d.outs.length y.oc, .slice y.no y.d.needs.length y.nc, .int .i64 y.d.regions, .int .i64 y.d.succs, .slice y.ko y.d.traits.length y.kc] 36)))
 have HM4 := Lib.hid (Nat.lt_of_lt_of_le HM2.out (Nat.le_trans hb.size (new_below w3 (.cells #[.string y.d.name, .slice y.io y.d.ins.length y.ic, .slice y.oo y.d.outs.length y.oc, .slice y.no y.d.needs.length y.nc, .int .i64 y.d.regions, .int .i64 y.d.succs, .slice y.ko y.d.traits.length y.kc] 36)).size))
 clear hb hy hyo g0 g1 g2 g3 g4 g5 g6 gf
 go_upto_region 4 with fail
 generalize w3.alloc (.cells #[.string y.d.name, .slice y.io y.d.ins.length y.ic, .slice y.oo y.d.outs.length y.oc, .slice y.no y.d.needs.length y.nc, .int .i64 y.d.regions, .int .i64 y.d.succs, .slice y.ko y.d.traits.length y.kc] 36) = W4 at T4 B4 HT HYO HM4 ⊢
 generalize w3.heap.size = D at HT ⊢
 obtain ⟨c0, c1, c2, c3, c4, c5, c6, cf⟩ := dcells7 HT.out
 have HCP := Lib.hid (copied_any y (defn_short HR.out HY.out) W4 HYO.out)
 unfold DEl.val at HCP
 go_wp2_with fail
 refine HCP.out.mono ?_
 rintro e w5 ⟨z, rfl, hzd, hzo, hb⟩
 have T5 := Lib.hid ((hb.block _ (lt_of_block T4.out)).trans T4.out)
 have B5 := Lib.hid (B4.out.trans (hb.mono B4.out.size))
 have HZD := Lib.hid hzd
 have HZO := Lib.hid hzo
 clear hb hzd hzo HCP c0 c1 c2 c3 c4 c5 c6 cf
 obtain ⟨g0, g1, g2, g3, g4, g5, g6, gf⟩ := dcells7 T5.out
 unfold DEl.val
 go_wp2_with fail
 refine bodyPost_ret (v := .tuple #[.agg #[.string z.d.name, .slice z.io z.d.ins.length z.ic, .slice z.oo z.d.outs.length z.oc, .slice z.no z.d.needs.length z.nc, .int .i64 z.d.regions, .int .i64 z.d.succs, .slice z.ko z.d.traits.length z.kc], .int .i64 0]) (results_cell_tmp Tryz.results19 rfl rfl (pdefVar (dset7_block T5.out))) rfl ?_
 exact ⟨dbelow_set7 B5.out (Nat.le_refl _), .inr (.inr ⟨HR.out, z, by rw [HZD.out]; exact HY.out, HZO.out.keeps ((dabove_to HM4.out (Nat.zero_le _)).trans above_to), rfl⟩)⟩
end Go.Proofs.YtgimdkgjfenafaaGreatDoor
