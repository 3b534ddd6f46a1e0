/-
  Texts of mine in one file: AtLK, AtLL.
-/
import Derived.Test.YtiofnjnaleglgaaGreatDoorG30
import Derived.Deep.Upon
import Derived.Laws.Append
/-
  'Drop' by its contract.
-/
namespace Go.Proofs.YtiofnjnaleglgaaGreatDoor
open Go.RowKit Go.BigFrame

/-- What 'Drop' answers. -/
def dropL (l : List At) (nm : ByteArray) : List At := if findErr l nm = 0 then l.eraseIdx (posL l nm) else []

theorem nth_erase (l : List At) (q j : Nat) : nth (l.eraseIdx q) j = if j < q then nth l j else nth l (j + 1) := by
  unfold nth
  rw [List.getElem?_eraseIdx]
  split <;> rfl
theorem erase_length {l : List At} {q : Nat} (h : q < l.length) : (l.eraseIdx q).length = q + (l.length - (q + 1)) := by
  rw [List.length_eraseIdx_of_lt h]; omega
theorem erase_mem {l : List At} {q : Nat} {a : At} (h : a ∈ l.eraseIdx q) : a ∈ l := List.mem_of_mem_eraseIdx h
/-- The list without one element: its cells behind each other. -/
theorem list_glued {w W : World} {bk o q g : Nat} {l : List At} {z : Array Value} (hq : q < l.length) (hc : ∀ j, j < l.length → ∃ ai ci ao ct, ElAt w bk (o + j * 6) (nth l j) ai ci ao ct) (hb : Below w.heap.size w W)
    (hg : W.heap[g]? = some (.cells ((rowCells w bk o q).toArray ++ (rowCells w bk (o + (q + 1) * 6) (l.length - (q + 1))).toArray ++ z) 29 (0, 0))) : ListAt W (some ⟨g, 0, none⟩) (l.eraseIdx q) := by
  refine .inr ⟨g, 0, rfl, fun j hj => ?_⟩
  rw [erase_length hq] at hj
  rw [nth_erase]
  have hlen1 := rowCells_length w bk o q
  have hlen2 := rowCells_length w bk (o + (q + 1) * 6) (l.length - (q + 1))
  by_cases hjq : j < q
  · rw [if_pos hjq]
    obtain ⟨ai, ci, ao, ct, h⟩ := hc j (by omega)
    have hcl : ∀ k v, k < 6 → w.cell? ⟨bk, o + j * 6 + k, none⟩ = some v → W.cell? ⟨g, 0 + j * 6 + k, none⟩ = some v := fun k v hk hv => by
      have h1 := rowCells_at (n := q) (k := j * 6 + k) (by rw [← Nat.add_assoc]; exact hv) (by omega)
      rw [row_cell hg, Nat.zero_add, Array.getElem?_append_left (by simp; omega), Array.getElem?_append_left (by simp; omega), List.getElem?_toArray]
      exact h1
    exact ⟨ai, ci, ao, ct, ⟨hcl 0 _ (by omega) h.c0, hcl 1 _ (by omega) h.c1, hcl 2 _ (by omega) h.c2, hcl 3 _ (by omega) h.c3, hcl 4 _ (by omega) h.c4, hcl 5 _ (by omega) h.c5, h.ints.below hb, h.texts.below hb, h.icap, h.tcap, h.wf⟩⟩
  · rw [if_neg hjq]
    obtain ⟨ai, ci, ao, ct, h⟩ := hc (j + 1) (by omega)
    have hcl : ∀ k v, k < 6 → w.cell? ⟨bk, o + (j + 1) * 6 + k, none⟩ = some v → W.cell? ⟨g, 0 + j * 6 + k, none⟩ = some v := fun k v hk hv => by
      have h1 := rowCells_at (w := w) (bk := bk) (o := o + (q + 1) * 6) (n := l.length - (q + 1)) (k := (j - q) * 6 + k) (v := v) (by rw [show o + (q + 1) * 6 + ((j - q) * 6 + k) = o + (j + 1) * 6 + k by omega]; exact hv) (by omega)
      rw [row_cell hg, Nat.zero_add, Array.getElem?_append_left (by simp; omega), Array.getElem?_append_right (by simp; omega), List.getElem?_toArray, List.size_toArray, hlen1]
      rw [show j * 6 + k - q * 6 = (j - q) * 6 + k by omega]
      exact h1
    exact ⟨ai, ci, ao, ct, ⟨hcl 0 _ (by omega) h.c0, hcl 1 _ (by omega) h.c1, hcl 2 _ (by omega) h.c2, hcl 3 _ (by omega) h.c3, hcl 4 _ (by omega) h.c4, hcl 5 _ (by omega) h.c5, h.ints.below hb, h.texts.below hb, h.icap, h.tcap, h.wf⟩⟩

theorem wp_run_append {ops : Array Oper} {rest : List Oper} {o : Oper} {a : Act} {Q : Exit → Act → World → Prop} {w : World} (hgd : o.guard = none) (s x : Operand) (T : TypeId)
    (ho : o.op = .call { callee := .builtin .append, args := #[s, x], argTypes := #[T, T] }) {vs vx v' : Value} {w' : World} (hs : a.eval s = vs) (hx : a.eval x = vx)
    (hr : (Builtin.append_ #[T, T] o.type #[vs, vx]).run Tryz.prog w = .ok v' w') (hk : wpList Tryz.prog ops Q rest (a.put o.dst v') w') :
    wpList Tryz.prog ops Q (o :: rest) a w := by
  refine wpList_plain hgd fun K hK => ?_
  unfold Oper.wp execOp
  simp only [ho, resolve, invoke, builtin, Sem.run_bind, Sem.run_pure, Result.andThen_ok, List.map_toArray, List.map_cons, List.map_nil, hs, hx, hr]
  exact hK _ _ hk

set_option maxHeartbeats 4000000 in
set_option maxRecDepth 100000 in
theorem Drop_any (so : Option Addr) (l : List At) (c : Nat) (nm : ByteArray) (hcap : l.length ≤ c) (hc63 : c ≤ 9223372036854775807) (w : World) (hl : ListAt w so l) (hE : Env w) :
    Calls Tryz.prog 15 #[.slice so l.length c, .string nm] w fun e w' => ∃ (so' : Option Addr) (c' : Nat),
      e = .returned (.tuple #[.slice so' (dropL l nm).length c', .int .i64 (findErr l nm)]) ∧ (dropL l nm).length ≤ c' ∧ ListAt w' so' (dropL l nm) ∧ Below w.heap.size w w' := by
  have HE := Lib.hid hE
  have HL := Lib.hid hl
  clear hE hl
  go_enter Tryz.func15, Tryz.ntmps15
  go_wp2_with fail
  refine (find_any so l c nm (by omega) w HL.out HE.out).mono ?_
  rintro e w1 ⟨rfl, hb⟩
  have B1 := Lib.hid hb
  clear hb
  have hbad : findErr l nm ≠ 0 → findOut l nm = .tuple #[.int .i64 0, .int .i64 (findErr l nm)] := fun h => by
    cases hr : rightL l with
    | false => rw [findOut_bad hr, findErr_bad hr]
    | true =>
      by_cases hp : posL l nm < l.length
      · exact absurd (findErr_yes hr hp) h
      · rw [findOut_no hr (by have : posL l nm ≤ l.length := List.findIdx_le_length
                              omega), findErr_no hr hp]
  by_cases he : findErr l nm = 0
  · have hrp : rightL l = true ∧ posL l nm < l.length := by
      cases hr : rightL l with
      | false => rw [findErr_bad hr] at he; exact absurd he (by decide)
      | true =>
        by_cases hp : posL l nm < l.length
        · exact ⟨rfl, hp⟩
        · rw [findErr_no hr hp] at he; exact absurd he (by decide)
    rw [findOut_yes hrp.1 rfl hrp.2]
    have hq := hrp.2
    have HD := Lib.hid (show dropL l nm = l.eraseIdx (posL l nm) from if_pos he)
    have HF := Lib.hid he
    have HR := Lib.hid hrp.1
    clear hbad hrp he
    rcases HL.out.below B1.out with h0 | ⟨bk, o, rfl, hc⟩
    · rw [h0] at hq; exact absurd hq (Nat.not_lt_zero _)
    have HC := Lib.hid hc
    clear hc
    generalize posL l nm = q at hq HD
    have h100 : l.length ≤ 100 := ((rightL_iff l).1 HR.out).1
    have hqc : (q : Int) ≤ (c : Int) := by omega
    have hq1 : (q : Int) + 1 ≤ (l.length : Int) := by omega
    go_upto_region 4 with fail
    refine wp_region_still_tail 8 (by kernel_rfl) (by kernel_rfl) ?_
    simp only [List.take_succ_cons, List.take_zero, List.drop_succ_cons, List.drop_zero]
    refine still_of_quiet _ _ ?_
    repeat (go_big_quiet_step (fail))
    refine wpQuiet_nil ?_
    change wpList _ _ _ _ _ w1.drew
    obtain ⟨i, hi, hz, hsz, hby⟩ := info_attr
    have hlens := Lib.hid (show ∀ a ∈ l.eraseIdx q, a.ints.length ≤ 1000 ∧ a.texts.length ≤ 1000 from fun a ha => right_lens (rightL_all HR.out a (erase_mem ha)))
    have hadd : ∀ (o' j : Nat), (⟨bk, o', none⟩ : Addr).add j = ⟨bk, o' + j, none⟩ := fun o' j => by unfold Addr.add; split <;> simp_all
    have hcell := ListAt.cells HC.out
    by_cases hlast : q + 1 = l.length
    · have hm : l.length - (q + 1) = 0 := by omega
      rw [hm]
      have hap := run_append_nothing (P := Tryz.prog) w1.drew 22 22 22 29 i Tryz.underlying22 hi (some ⟨bk, o, none⟩) q q (Nat.le_refl _)
        (.slice (if c = q + 1 then some ⟨bk, o, none⟩ else some ⟨bk, o + (q + 1) * 6, none⟩) 0 (c - (q + 1))) (by
          by_cases hcq : c = q + 1
          · rw [if_pos hcq]; exact Src.ofSlice _ Tryz.underlying22 _ 0 _ [] (by simp) (fun j u h => by simp at h) (fun u h => by simp at h)
          · rw [if_neg hcq]; exact Src.ofSlice _ Tryz.underlying22 _ 0 _ [] (by simp) (fun j u h => by simp at h) (fun u h => by simp at h))
      refine wp_run_append rfl _ _ 22 rfl rfl rfl hap ?_
      have BB := Lib.hid (show Below w1.heap.size w1 w1.drew from (Below.refl _ w1).drew)
      have hlist : ListAt w1.drew (some ⟨bk, o, none⟩) (l.eraseIdx q) := by
        refine .inr ⟨bk, o, rfl, fun j hj => ?_⟩
        rw [erase_length hq] at hj
        obtain ⟨ai, ci, ao, ct, h⟩ := HC.out j (by omega)
        rw [nth_erase, if_pos (by omega)]
        exact ⟨ai, ci, ao, ct, h.below BB.out⟩
      clear hap hcell hadd
      generalize w1.drew = W2 at BB hlist ⊢
      generalize (if c = q + 1 then some (⟨bk, o, none⟩ : Addr) else some ⟨bk, o + (q + 1) * 6, none⟩) = ad
      have hqe : q = (l.eraseIdx q).length := by rw [erase_length hq]; omega
      generalize hql : (Value.slice (some ⟨bk, o, none⟩) q q) = sv
      have hsv : sv = .slice (some ⟨bk, o, none⟩) (l.eraseIdx q).length q := by rw [← hql, ← hqe]
      clear hql
      rw [hsv]
      clear hsv hqe
      have HLI := Lib.hid hlist
      clear hlist
      go_wp2_with fail
      refine (copiedList_any _ (l.eraseIdx q) _ (by rw [erase_length hq]; omega) hlens.out W2 HLI.out).mono ?_
      rintro e w3 ⟨so', c', rfl, hcc, hlc, hb⟩
      have B3 := Lib.hid (BB.out.trans (hb.mono BB.out.size))
      have HC3 := Lib.hid (And.intro hcc hlc)
      clear hcc hlc hb
      go_wp2_with fail
      go_ret2
      exact ⟨so', c', by rw [HD.out, HF.out]; rfl, by rw [HD.out]; exact HC3.out.1, by rw [HD.out]; exact HC3.out.2, B1.out.trans (B3.out.mono B1.out.size)⟩
    · rw [if_neg (show ¬ c = q + 1 by omega)]
      have hap := run_append_grow (P := Tryz.prog) w1.drew 22 22 29 i _ Tryz.underlying22 hi hz ⟨bk, o, none⟩ q q (rowCells w1 bk o q) (by rw [rowCells_length, hsz]) (fun j v h => by
          have hj : j < q * 6 := by have := (List.getElem?_eq_some_iff.1 h).1; rwa [rowCells_length] at this
          obtain ⟨v', hv', _⟩ := hcell j (by omega)
          rw [rowCells_at hv' hj] at h
          cases h
          rw [hadd]
          exact hv')
        ⟨bk, o + (q + 1) * 6, none⟩ (l.length - (q + 1)) (c - (q + 1)) (rowCells w1 bk (o + (q + 1) * 6) (l.length - (q + 1))) (by rw [rowCells_length, hsz]) (fun j v h => by
          have hj : j < (l.length - (q + 1)) * 6 := by have := (List.getElem?_eq_some_iff.1 h).1; rwa [rowCells_length] at this
          obtain ⟨v', hv', _⟩ := hcell ((q + 1) * 6 + j) (by omega)
          rw [← Nat.add_assoc] at hv'
          rw [rowCells_at hv' hj] at h
          cases h
          rw [hadd]
          exact hv') (by omega) (by omega) (growslice_fits (by omega) (by
          have h1 : (q + (l.length - (q + 1))) * i.bytes ≤ 1000 * i.bytes := Nat.mul_le_mul_right _ (by omega)
          omega))
      refine wp_run_append rfl _ _ 22 rfl rfl rfl hap ?_
      have X2 := Lib.hid (heap_alloc_new w1.drew.drew (.cells ((rowCells w1 bk o q).toArray ++ (rowCells w1 bk (o + (q + 1) * 6) (l.length - (q + 1))).toArray ++ Builtin.zeroCells (Value.agg #[.string ⟨#[]⟩, .int .i64 0, .int .i64 0, .string ⟨#[]⟩, .slice none 0 0, .slice none 0 0]).cells (grownCap w1.drew (q + (l.length - (q + 1))) q 29 - (q + (l.length - (q + 1))))) 29))
      have BB := Lib.hid (show Below w1.heap.size w1 (w1.drew.drew.alloc (.cells ((rowCells w1 bk o q).toArray ++ (rowCells w1 bk (o + (q + 1) * 6) (l.length - (q + 1))).toArray ++ Builtin.zeroCells (Value.agg #[.string ⟨#[]⟩, .int .i64 0, .int .i64 0, .string ⟨#[]⟩, .slice none 0 0, .slice none 0 0]).cells (grownCap w1.drew (q + (l.length - (q + 1))) q 29 - (q + (l.length - (q + 1))))) 29)) from (Below.refl _ w1).drew.drew.alloc (Nat.le_refl _) _)
      have hlist := list_glued hq HC.out BB.out X2.out
      clear hap hcell hadd X2
      generalize w1.drew.drew.alloc (.cells ((rowCells w1 bk o q).toArray ++ (rowCells w1 bk (o + (q + 1) * 6) (l.length - (q + 1))).toArray ++ Builtin.zeroCells (Value.agg #[.string ⟨#[]⟩, .int .i64 0, .int .i64 0, .string ⟨#[]⟩, .slice none 0 0, .slice none 0 0]).cells (grownCap w1.drew (q + (l.length - (q + 1))) q 29 - (q + (l.length - (q + 1))))) 29) = W2 at BB hlist ⊢
      generalize grownCap w1.drew (q + (l.length - (q + 1))) q 29 = cap
      rw [← erase_length hq, show w1.drew.heap.size = w1.heap.size from rfl]
      rw [show w1.drew.drew.heap.size = w1.heap.size from rfl] at hlist
      have HLI := Lib.hid hlist
      clear hlist
      go_wp2_with fail
      refine (copiedList_any _ (l.eraseIdx q) _ (by rw [erase_length hq]; omega) hlens.out W2 HLI.out).mono ?_
      rintro e w3 ⟨so', c', rfl, hcc, hlc, hb⟩
      have B3 := Lib.hid (BB.out.trans (hb.mono BB.out.size))
      have HC3 := Lib.hid (And.intro hcc hlc)
      clear hcc hlc hb
      go_wp2_with fail
      go_ret2
      exact ⟨so', c', by rw [HD.out, HF.out]; rfl, by rw [HD.out]; exact HC3.out.1, by rw [HD.out]; exact HC3.out.2, B1.out.trans (B3.out.mono B1.out.size)⟩
  · rw [hbad he]
    have HD := Lib.hid (show dropL l nm = [] from if_neg he)
    clear hbad
    generalize hz : findErr l nm = z at he ⊢
    have HZ := Lib.hid hz
    clear hz
    go_wp2_with fail
    go_ret2
    exact ⟨none, 0, by rw [HZ.out, HD.out]; rfl, by rw [HD.out]; exact Nat.le_refl _, .inl HD.out, B1.out⟩
end Go.Proofs.YtiofnjnaleglgaaGreatDoor

/-
  The reference's 'Place'.
-/
namespace Go.Proofs.YtiofnjnaleglgaaGreatDoor
open Go.RowKit Go.BigFrame

/-- Where the attribute with a name stands, or -1. -/
def placeL (l : List At) (nm : ByteArray) : Int := if posL l nm < l.length then (posL l nm : Nat) else -1
theorem placeL_yes {l : List At} {nm : ByteArray} {q : Nat} (h : posL l nm = q) (hq : q < l.length) : placeL l nm = (q : Nat) := by unfold placeL; rw [h, if_pos hq]
theorem placeL_no {l : List At} {nm : ByteArray} (h : posL l nm = l.length) : placeL l nm = -1 := by unfold placeL; rw [h, if_neg (Nat.lt_irrefl _)]

set_option maxHeartbeats 2000000 in
set_option maxRecDepth 100000 in
theorem Place_any (so : Option Addr) (l : List At) (c : Nat) (nm : ByteArray) (hn : l.length ≤ 1000000) (w : World) (hl : ListAt w so l) :
    Calls Tryz.prog 19 #[.slice so l.length c, .string nm] w fun e w' => e = .returned (.int .i64 (placeL l nm)) ∧ Below w.heap.size w w' := by
  have HL := Lib.hid hl
  clear hl
  go_enter Tryz.func19, Tryz.ntmps19
  go_wp2_with fail
  go_loopw [5] (fun i wr => ∃ q : Nat, q ≤ l.length ∧ i = .int .i64 q ∧ Hid ((∀ j, j < q → (nth l j).name ≠ nm) ∧ Below w.heap.size w wr)) (fun i _ => l.length - (intOf i).toNat)
  case atStart => exact ⟨0, Nat.zero_le _, rfl, fun j hj => absurd hj (Nat.not_lt_zero _), Below.refl _ _⟩
  case round =>
    obtain ⟨q, hq, rfl, hh⟩ := hrel
    by_cases hlt : q < l.length
    · rcases HL.out.below hh.out.2 with h0 | ⟨bk, o, rfl, hc⟩
      · rw [h0] at hlt; exact absurd hlt (Nat.not_lt_zero _)
      obtain ⟨ai, ci, ao, ct, hel⟩ := hc q hlt
      have HP := Lib.hid (fun (h : (nth l q).name = nm) => placeL_yes (posL_at hlt hh.out.1 h) hlt)
      have HN := Lib.hid (fun (h : (nth l q).name ≠ nm) (j : Nat) (hj : j < q + 1) => show (nth l j).name ≠ nm from
        if hjq : j = q then hjq ▸ h else hh.out.1 j (by omega))
      have c0 := hel.c0
      have BH := Lib.hid hh.out.2
      clear hc hel hh
      generalize (nth l q).name = an at c0 HP HN
      by_cases he : an = nm
      · have hp := Lib.hid (HP.out he)
        clear HP HN
        go_wp2_with fail
        go_ret
        exact ⟨by rw [hp.out]; rfl, BH.out⟩
      · have hp := Lib.hid (HN.out he)
        have HS := Lib.hid (show ¬ (an.toList == nm.toList) = true from fun h => he (bytes_inj (by rw [← toList_data, ← toList_data]; exact eq_of_beq h)))
        clear HP HN
        go_wp2_with fail
        go_roundw
        · exact ⟨q + 1, by omega, by go_num, hp.out, BH.out⟩
        · simp only [intOf]; omega
    · obtain rfl : q = l.length := by omega
      have hf := Lib.hid (placeL_no (posL_none hh.out.1))
      go_wp2_with fail
      go_ret
      exact ⟨by rw [hf.out]; rfl, hh.out.2⟩
end Go.Proofs.YtiofnjnaleglgaaGreatDoor

