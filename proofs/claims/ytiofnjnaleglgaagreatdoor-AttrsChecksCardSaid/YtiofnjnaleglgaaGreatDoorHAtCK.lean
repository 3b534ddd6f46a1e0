/-
  The walk of the law 'AttrsChecks'.
-/
import Derived.Test.YtiofnjnaleglgaaGreatDoorG40
import Derived.Test.YtiofnjnaleglgaaGreatDoorG31
import Derived.Test.YtiofnjnaleglgaaGreatDoorHAtRL
import Derived.Test.YtiofnjnaleglgaaGreatDoorHAtAP
namespace Go.Proofs.YtiofnjnaleglgaaGreatDoor
open Go.RowKit Go.BigFrame

theorem drop_no {l : List At} {nm : ByteArray} (h : findErr l nm ≠ 0) : dropL l nm = [] := if_neg h
theorem drop_yes {l : List At} {nm : ByteArray} (h : findErr l nm = 0) : dropL l nm = l.eraseIdx (posL l nm) := if_pos h
theorem find_right {l : List At} {nm : ByteArray} (hr : rightL l = true) : (posL l nm = l.length ∧ findErr l nm = 4 ∧ placeL l nm = -1) ∨ (posL l nm < l.length ∧ findErr l nm = 0 ∧ placeL l nm = (posL l nm : Nat)) := by
  have h0 : posL l nm ≤ l.length := List.findIdx_le_length
  by_cases h : posL l nm < l.length
  · exact .inr ⟨h, findErr_yes hr h, placeL_yes rfl h⟩
  · have h1 : posL l nm = l.length := by omega
    exact .inl ⟨h1, findErr_no hr h, placeL_no h1⟩

set_option maxHeartbeats 4000000 in
set_option maxRecDepth 100000 in
theorem AttrsChecks_any (so : Option Addr) (l : List At) (c : Nat) (nm : ByteArray) (hcap : l.length ≤ c) (hc63 : c ≤ 9223372036854775807) (hs : ∀ a ∈ l, Short a) (w : World) (hl : ListAt w so l) (hE : Env w) :
    Calls Tryz.prog 3 #[.slice so l.length c, .string nm] w fun e w' => e = .returned (.bool true) ∧ Below w.heap.size w w' := by
  have HE := Lib.hid hE
  have HL := Lib.hid hl
  have HS := Lib.hid hs
  have HC := Lib.hid hcap
  have H63 := Lib.hid hc63
  have HN := Lib.hid (show l.length ≤ 9223372036854775807 by omega)
  clear hE hl hs hcap hc63
  go_enter Tryz.func3, Tryz.ntmps3
  go_wp2_with fail
  refine (CheckL_any so l c HN.out w HL.out HE.out).mono ?_
  rintro e w1 ⟨rfl, hb⟩
  have B1 := Lib.hid hb
  clear hb
  go_wp2_with fail
  refine (Get_any so l c nm HN.out w1 (HL.out.below B1.out) (HE.out.below B1.out)).mono ?_
  rintro e w2 ⟨v, ai, ci, ao, ct, rfl, hv, hb⟩
  have B2 := Lib.hid (B1.out.trans (hb.mono B1.out.size))
  have hvv := hv.val
  subst hvv
  have V2 := Lib.hid hv
  clear hv hb B1
  obtain ⟨ga, hga⟩ : ∃ ga, ga = getL l nm := ⟨_, rfl⟩
  rw [← hga] at V2 ⊢
  have HGA := Lib.hid hga
  clear hga
  have B3 := Lib.hid (B2.out.alloc B2.out.size (.cells #[.string ga.name, .int .i64 ga.kind, .int .i64 ga.num, .string ga.text, .slice ai ga.ints.length ci, .slice ao ga.texts.length ct] 29))
  have T3 := Lib.hid (heap_alloc_new w2 (.cells #[.string ga.name, .int .i64 ga.kind, .int .i64 ga.num, .string ga.text, .slice ai ga.ints.length ci, .slice ao ga.texts.length ct] 29))
  have V3 := Lib.hid (V2.out.below (alloc_below w2 (.cells #[.string ga.name, .int .i64 ga.kind, .int .i64 ga.num, .string ga.text, .slice ai ga.ints.length ci, .slice ao ga.texts.length ct] 29)))
  go_upto_region 3 with fail
  generalize w2.alloc (.cells #[.string ga.name, .int .i64 ga.kind, .int .i64 ga.num, .string ga.text, .slice ai ga.ints.length ci, .slice ao ga.texts.length ct] 29) = w3 at B3 T3 V3 ⊢
  generalize w2.heap.size = G at T3 ⊢
  clear B2 V2
  go_wp2_with fail
  refine (Drop_any so l c nm HC.out H63.out w3 (HL.out.below B3.out) (HE.out.below B3.out)).mono ?_
  rintro e w4 ⟨so', c', rfl, hcc, hd, hb⟩
  have B4 := Lib.hid (B3.out.trans (hb.mono B3.out.size))
  have T4 := Lib.hid ((hb.block _ (lt_of_block T3.out)).trans T3.out)
  have V4 := Lib.hid (V3.out.below hb)
  have D4 := Lib.hid hd
  clear hd hb hcc B3 T3 V3
  go_wp2_with fail
  refine (RRightList_any so l c HN.out HS.out w4 (HL.out.below B4.out)).mono ?_
  rintro e w5 ⟨rfl, hb⟩
  have B5 := Lib.hid (B4.out.trans (hb.mono B4.out.size))
  have T5 := Lib.hid ((hb.block _ (lt_of_block T4.out)).trans T4.out)
  have V5 := Lib.hid (V4.out.below hb)
  have D5 := Lib.hid (D4.out.below hb)
  clear hb B4 T4 V4 D4
  cases hr : rightL l with
  | false =>
    have hf : findErr l nm = 20 := findErr_bad hr
    have hne : findErr l nm ≠ 0 := by rw [hf]; decide
    have hd0 : dropL l nm = [] := drop_no hne
    have hz : ga = At.zero := by rw [HGA.out, getL_no hne]
    subst hz
    rw [errL_no hr, hf, hd0]
    clear hne hf hd0 hr
    obtain ⟨z0, z1, z2, z3, z4, z5, zf⟩ := cells6 T5.out
    go_wp2_with fail
    refine (equal_same At.zero _ _ ai ci ao ct none 0 none 0 w5 V5.out (AttAt.zero _)).mono ?_
    rintro e w6 ⟨rfl, hb⟩
    have B6 := Lib.hid (B5.out.trans (hb.mono B5.out.size))
    clear hb B5 T5 V5 D5 z0 z1 z2 z3 z4 z5 zf
    go_wp2_with fail
    refine (awake2_any _ (HE.out.below B6.out)).mono ?_
    rintro e wz ⟨rfl, hb⟩
    have BZ := Lib.hid (B6.out.trans (hb.mono B6.out.size))
    clear hb
    go_wp2_with fail
    go_ret
    exact ⟨rfl, BZ.out⟩
  | true =>
    have h100 : l.length ≤ 100 := ((rightL_iff l).1 hr).1
    have HR := Lib.hid hr
    rw [errL_yes hr]
    go_wp2_with fail
    refine (Place_any so l c nm (by omega) w5 (HL.out.below B5.out)).mono ?_
    rintro e w6 ⟨rfl, hb⟩
    have B6 := Lib.hid (B5.out.trans (hb.mono B5.out.size))
    have T6 := Lib.hid ((hb.block _ (lt_of_block T5.out)).trans T5.out)
    have V6 := Lib.hid (V5.out.below hb)
    have D6 := Lib.hid (D5.out.below hb)
    clear hb B5 T5 V5 D5
    rcases find_right (nm := nm) hr with ⟨hp, hf, hpl⟩ | ⟨hp, hf, hpl⟩
    · have hne : findErr l nm ≠ 0 := by rw [hf]; decide
      have hd0 : dropL l nm = [] := drop_no hne
      have hz : ga = At.zero := by rw [HGA.out, getL_no hne]
      subst hz
      rw [hpl, hf, hd0]
      clear hne hf hd0 hr hpl hp
      obtain ⟨z0, z1, z2, z3, z4, z5, zf⟩ := cells6 T6.out
      go_wp2_with fail
      refine (equal_same At.zero _ _ ai ci ao ct none 0 none 0 w6 V6.out (AttAt.zero _)).mono ?_
      rintro e w7 ⟨rfl, hb⟩
      have B7 := Lib.hid (B6.out.trans (hb.mono B6.out.size))
      clear hb B6 T6 V6 D6 z0 z1 z2 z3 z4 z5 zf
      go_wp2_with fail
      refine (awake2_any _ (HE.out.below B7.out)).mono ?_
      rintro e wz ⟨rfl, hb⟩
      have BZ := Lib.hid (B7.out.trans (hb.mono B7.out.size))
      clear hb
      go_wp2_with fail
      go_ret
      exact ⟨rfl, BZ.out⟩
    · have hdd : dropL l nm = l.eraseIdx (posL l nm) := drop_yes hf
      have hz : ga = nth l (posL l nm) := by rw [HGA.out, getL_yes hf]
      rw [hpl, hf, hdd]
      rw [hdd] at D6
      clear hf hdd hr hpl HGA
      generalize posL l nm = q at hp hz D6 ⊢
      have HZ := Lib.hid hz
      clear hz
      obtain ⟨L, hLl, hLe⟩ := els_of_list (HL.out.below B6.out)
      have HLL := Lib.hid hLl
      rcases hLe with h0 | ⟨bk, o, rfl, hLc⟩
      · subst h0; rw [← hLl] at hp; exact absurd hp (Nat.not_lt_zero _)
      have HLC := Lib.hid hLc
      clear hLl hLc
      have hqi : (q : Int) < (l.length : Int) := by omega
      have hqc : (q : Int) ≤ (c : Int) := by have := HC.out; omega
      have hLn : L.length = l.length := by rw [← HLL.out, List.length_map]
      have hga : ∀ h : q < L.length, (L[q]'h).a = ga := fun hq => by
        have e := HLL.out
        rw [HZ.out, nth_get hp]
        subst e
        rw [List.getElem_map]
      have hLq := Lib.hid (show q = (L.take q).length by rw [List.length_take]; omega)
      have hLd := Lib.hid (show l.length - (q + 1) = (L.drop (q + 1)).length by rw [List.length_drop, hLn])
      have HF1 := Lib.hid (els_front HLC.out q)
      have HO0 := Lib.hid (show w6.ownsRow w6.heap.size 29 6 (.slice none ([] : List El).length 0) ([] : List El).length (([] : List El).flatMap El.cells) from ⟨rfl, .inl ⟨rfl, rfl⟩⟩)
      have HB0 := Lib.hid (Nat.le_refl w6.heap.size)
      have HT0 := Lib.hid (show ([] : List El).length + (L.take q).length ≤ 2000 by rw [← hLq.out]; show 0 + q ≤ 2000; omega)
      have HT1 := Lib.hid (show ([] ++ L.take q).length + (L.drop (q + 1)).length ≤ 2000 by rw [List.nil_append, ← hLq.out, ← hLd.out]; omega)
      have HOK := Lib.hid (fun (e : El) (he : e ∈ L) => els_ok (w := w6) (so := some ⟨bk, o, none⟩) (.inr ⟨bk, o, rfl, HLC.out⟩) e he)
      have HER := Lib.hid (show (([] ++ L.take q) ++ L.drop (q + 1)).map (fun x : El => x.a) = l.eraseIdx q by
        rw [List.nil_append, List.map_append, List.map_take, List.map_drop, HLL.out, ← List.eraseIdx_eq_take_drop_succ])
      have HMEM := Lib.hid (fun (e : El) (he : e ∈ ([] ++ L.take q) ++ L.drop (q + 1)) => show e ∈ L by
        rw [List.nil_append] at he
        rcases List.mem_append.1 he with h | h
        · exact List.mem_of_mem_take h
        · exact List.mem_of_mem_drop h)
      have HELN := Lib.hid (show (l.eraseIdx q).length ≤ 1000000 by rw [erase_length hp]; omega)
      have HLN := Lib.hid (erase_length hp)
      have hel0 := HLC.out q (by omega)
      rw [hga] at hel0
      have HEL := Lib.hid hel0
      clear hel0 hga
      generalize (L[q]'(by omega)).ai = bi at HEL
      generalize (L[q]'(by omega)).ci = bci at HEL
      generalize (L[q]'(by omega)).ao = bo at HEL
      generalize (L[q]'(by omega)).ct = bct at HEL
      go_upto_region 13 with (at_builtin; refine wp_append_many rfl _ _ rfl HO0.out HB0.out HT0.out HF1.out rfl hLq.out rfl rfl ?_; intro ao1 c1 w7 hown hbel; have HOWN := Lib.hid hown; have HBEL := Lib.hid hbel; clear hown hbel)
      have B7 := Lib.hid (B6.out.trans (HBEL.out.mono B6.out.size))
      have HB1 := Lib.hid (show w6.heap.size ≤ w7.heap.size from HBEL.out.size)
      by_cases hcq : c = q + 1
      · have HF2 := Lib.hid (show ElsFrom w7 ⟨bk, o, none⟩ (L.drop (q + 1)) from .inl (List.drop_of_length_le (by have := HC.out; omega)))
        go_upto_region 14 with (at_builtin; refine wp_append_many rfl _ _ rfl HOWN.out HB1.out HT1.out HF2.out hLq.out hLd.out rfl rfl ?_; intro ao2 k2 w8 hown hbel; have HOWN2 := Lib.hid hown; have HBEL2 := Lib.hid hbel; clear hown hbel)
        have HBB := Lib.hid (HBEL.out.trans HBEL2.out)
        have B8 := Lib.hid (B6.out.trans (HBB.out.mono B6.out.size))
        have T8 := Lib.hid ((HBB.out.block _ (lt_of_block T6.out)).trans T6.out)
        have V8 := Lib.hid (V6.out.below HBB.out)
        have D8 := Lib.hid (D6.out.below HBB.out)
        have E8 := Lib.hid (HEL.out.below HBB.out)
        have R8 := Lib.hid (list_of_own HOWN2.out rfl (fun e he => (HOK.out e (HMEM.out e he)).below HBB.out)).1
        rw [HER.out] at R8
        clear B6 T6 V6 D6 HEL HOWN HOWN2 HBEL HBEL2 HBB HF1 HF2 B7 HOK HMEM
        rw [← HLN.out]
        generalize (l.eraseIdx q) = le at HLN HELN D8 R8 ⊢
        obtain ⟨z0, z1, z2, z3, z4, z5, zf⟩ := cells6 T8.out
        have c0 := E8.out.c0
        have c1 := E8.out.c1
        have c2 := E8.out.c2
        have c3 := E8.out.c3
        have c4 := E8.out.c4
        have c5 := E8.out.c5
        have HEQ := Lib.hid (show ∀ X, (X.cell? ⟨G, 0, none⟩ = some (.string ga.name) ∧ X.cell? ⟨G, 1, none⟩ = some (.int .i64 ga.kind) ∧ X.cell? ⟨G, 2, none⟩ = some (.int .i64 ga.num) ∧ X.cell? ⟨G, 3, none⟩ = some (.string ga.text) ∧ X.cell? ⟨G, 4, none⟩ = some (.slice ai ga.ints.length ci) ∧ X.cell? ⟨G, 5, none⟩ = some (.slice ao ga.texts.length ct) ∧ X.cell? ⟨bk, o + q * 6, none⟩ = some (.string ga.name) ∧ X.cell? ⟨bk, o + q * 6 + 1, none⟩ = some (.int .i64 ga.kind) ∧ X.cell? ⟨bk, o + q * 6 + 2, none⟩ = some (.int .i64 ga.num) ∧ X.cell? ⟨bk, o + q * 6 + 3, none⟩ = some (.string ga.text) ∧ X.cell? ⟨bk, o + q * 6 + 4, none⟩ = some (.slice bi ga.ints.length bci) ∧ X.cell? ⟨bk, o + q * 6 + 5, none⟩ = some (.slice bo ga.texts.length bct) ∧ Hid (Below w8.heap.size w8 X)) → Calls Tryz.prog 17 #[.agg #[.string ga.name, .int .i64 ga.kind, .int .i64 ga.num, .string ga.text, .slice ai ga.ints.length ci, .slice ao ga.texts.length ct], .agg #[.string ga.name, .int .i64 ga.kind, .int .i64 ga.num, .string ga.text, .slice bi ga.ints.length bci, .slice bo ga.texts.length bct]] X (fun e w' => e = .returned (.bool true) ∧ Below X.heap.size X w') from fun X h => equal_same ga _ _ ai ci ao ct bi bci bo bct X (V8.out.below h.2.2.2.2.2.2.2.2.2.2.2.2.out) (E8.out.below h.2.2.2.2.2.2.2.2.2.2.2.2.out).att)
        have HLS := Lib.hid (show ∀ X, (X.cell? ⟨G, 0, none⟩ = some (.string ga.name) ∧ X.cell? ⟨G, 1, none⟩ = some (.int .i64 ga.kind) ∧ X.cell? ⟨G, 2, none⟩ = some (.int .i64 ga.num) ∧ X.cell? ⟨G, 3, none⟩ = some (.string ga.text) ∧ X.cell? ⟨G, 4, none⟩ = some (.slice ai ga.ints.length ci) ∧ X.cell? ⟨G, 5, none⟩ = some (.slice ao ga.texts.length ct) ∧ X.cell? ⟨bk, o + q * 6, none⟩ = some (.string ga.name) ∧ X.cell? ⟨bk, o + q * 6 + 1, none⟩ = some (.int .i64 ga.kind) ∧ X.cell? ⟨bk, o + q * 6 + 2, none⟩ = some (.int .i64 ga.num) ∧ X.cell? ⟨bk, o + q * 6 + 3, none⟩ = some (.string ga.text) ∧ X.cell? ⟨bk, o + q * 6 + 4, none⟩ = some (.slice bi ga.ints.length bci) ∧ X.cell? ⟨bk, o + q * 6 + 5, none⟩ = some (.slice bo ga.texts.length bct) ∧ Hid (Below w8.heap.size w8 X)) → Calls Tryz.prog 20 #[.slice so' le.length c', .slice ao2 le.length k2] X (fun e w' => e = .returned (.bool true) ∧ Below X.heap.size X w') from fun X h => equalLists_same so' ao2 le c' k2 HELN.out X (D8.out.below h.2.2.2.2.2.2.2.2.2.2.2.2.out) (R8.out.below h.2.2.2.2.2.2.2.2.2.2.2.2.out))
        have HAW := Lib.hid (show ∀ X, (X.cell? ⟨G, 0, none⟩ = some (.string ga.name) ∧ X.cell? ⟨G, 1, none⟩ = some (.int .i64 ga.kind) ∧ X.cell? ⟨G, 2, none⟩ = some (.int .i64 ga.num) ∧ X.cell? ⟨G, 3, none⟩ = some (.string ga.text) ∧ X.cell? ⟨G, 4, none⟩ = some (.slice ai ga.ints.length ci) ∧ X.cell? ⟨G, 5, none⟩ = some (.slice ao ga.texts.length ct) ∧ X.cell? ⟨bk, o + q * 6, none⟩ = some (.string ga.name) ∧ X.cell? ⟨bk, o + q * 6 + 1, none⟩ = some (.int .i64 ga.kind) ∧ X.cell? ⟨bk, o + q * 6 + 2, none⟩ = some (.int .i64 ga.num) ∧ X.cell? ⟨bk, o + q * 6 + 3, none⟩ = some (.string ga.text) ∧ X.cell? ⟨bk, o + q * 6 + 4, none⟩ = some (.slice bi ga.ints.length bci) ∧ X.cell? ⟨bk, o + q * 6 + 5, none⟩ = some (.slice bo ga.texts.length bct) ∧ Hid (Below w8.heap.size w8 X)) → Calls Tryz.prog 18 #[] X (fun e w' => e = .returned (.bool true) ∧ Below X.heap.size X w') from fun X h => awake2_any X ((HE.out.below B8.out).below h.2.2.2.2.2.2.2.2.2.2.2.2.out))
        have HST := Lib.hid (show ∀ X Y, (X.cell? ⟨G, 0, none⟩ = some (.string ga.name) ∧ X.cell? ⟨G, 1, none⟩ = some (.int .i64 ga.kind) ∧ X.cell? ⟨G, 2, none⟩ = some (.int .i64 ga.num) ∧ X.cell? ⟨G, 3, none⟩ = some (.string ga.text) ∧ X.cell? ⟨G, 4, none⟩ = some (.slice ai ga.ints.length ci) ∧ X.cell? ⟨G, 5, none⟩ = some (.slice ao ga.texts.length ct) ∧ X.cell? ⟨bk, o + q * 6, none⟩ = some (.string ga.name) ∧ X.cell? ⟨bk, o + q * 6 + 1, none⟩ = some (.int .i64 ga.kind) ∧ X.cell? ⟨bk, o + q * 6 + 2, none⟩ = some (.int .i64 ga.num) ∧ X.cell? ⟨bk, o + q * 6 + 3, none⟩ = some (.string ga.text) ∧ X.cell? ⟨bk, o + q * 6 + 4, none⟩ = some (.slice bi ga.ints.length bci) ∧ X.cell? ⟨bk, o + q * 6 + 5, none⟩ = some (.slice bo ga.texts.length bct) ∧ Hid (Below w8.heap.size w8 X)) → Below X.heap.size X Y → (Y.cell? ⟨G, 0, none⟩ = some (.string ga.name) ∧ Y.cell? ⟨G, 1, none⟩ = some (.int .i64 ga.kind) ∧ Y.cell? ⟨G, 2, none⟩ = some (.int .i64 ga.num) ∧ Y.cell? ⟨G, 3, none⟩ = some (.string ga.text) ∧ Y.cell? ⟨G, 4, none⟩ = some (.slice ai ga.ints.length ci) ∧ Y.cell? ⟨G, 5, none⟩ = some (.slice ao ga.texts.length ct) ∧ Y.cell? ⟨bk, o + q * 6, none⟩ = some (.string ga.name) ∧ Y.cell? ⟨bk, o + q * 6 + 1, none⟩ = some (.int .i64 ga.kind) ∧ Y.cell? ⟨bk, o + q * 6 + 2, none⟩ = some (.int .i64 ga.num) ∧ Y.cell? ⟨bk, o + q * 6 + 3, none⟩ = some (.string ga.text) ∧ Y.cell? ⟨bk, o + q * 6 + 4, none⟩ = some (.slice bi ga.ints.length bci) ∧ Y.cell? ⟨bk, o + q * 6 + 5, none⟩ = some (.slice bo ga.texts.length bct) ∧ Hid (Below w8.heap.size w8 Y)) from fun X Y h hb => by
          obtain ⟨h0, h1, h2, h3, h4, h5, h6, h7, h8, h9, h10, h11, hB⟩ := h
          have hc : ∀ {x : Addr} {v : Value}, X.cell? x = some v → Y.cell? x = some v := fun hx => (hb.cell (block_lt_of_cell hx)).trans hx
          exact ⟨hc h0, hc h1, hc h2, hc h3, hc h4, hc h5, hc h6, hc h7, hc h8, hc h9, hc h10, hc h11, hB.out.trans (hb.mono hB.out.size)⟩)
        have HSD : w8.drew.cell? ⟨G, 0, none⟩ = some (.string ga.name) ∧ w8.drew.cell? ⟨G, 1, none⟩ = some (.int .i64 ga.kind) ∧ w8.drew.cell? ⟨G, 2, none⟩ = some (.int .i64 ga.num) ∧ w8.drew.cell? ⟨G, 3, none⟩ = some (.string ga.text) ∧ w8.drew.cell? ⟨G, 4, none⟩ = some (.slice ai ga.ints.length ci) ∧ w8.drew.cell? ⟨G, 5, none⟩ = some (.slice ao ga.texts.length ct) ∧ w8.drew.cell? ⟨bk, o + q * 6, none⟩ = some (.string ga.name) ∧ w8.drew.cell? ⟨bk, o + q * 6 + 1, none⟩ = some (.int .i64 ga.kind) ∧ w8.drew.cell? ⟨bk, o + q * 6 + 2, none⟩ = some (.int .i64 ga.num) ∧ w8.drew.cell? ⟨bk, o + q * 6 + 3, none⟩ = some (.string ga.text) ∧ w8.drew.cell? ⟨bk, o + q * 6 + 4, none⟩ = some (.slice bi ga.ints.length bci) ∧ w8.drew.cell? ⟨bk, o + q * 6 + 5, none⟩ = some (.slice bo ga.texts.length bct) ∧ Hid (Below w8.heap.size w8 w8.drew) := ⟨z0, z1, z2, z3, z4, z5, c0, c1, c2, c3, c4, c5, (Below.refl w8.heap.size w8).drew⟩
        clear T8 V8 D8 R8 E8 c0 c1 c2 c3 c4 c5 z0 z1 z2 z3 z4 z5 zf
        refine wp_region_held_drew (S := fun w' => w'.cell? ⟨G, 0, none⟩ = some (.string ga.name) ∧ w'.cell? ⟨G, 1, none⟩ = some (.int .i64 ga.kind) ∧ w'.cell? ⟨G, 2, none⟩ = some (.int .i64 ga.num) ∧ w'.cell? ⟨G, 3, none⟩ = some (.string ga.text) ∧ w'.cell? ⟨G, 4, none⟩ = some (.slice ai ga.ints.length ci) ∧ w'.cell? ⟨G, 5, none⟩ = some (.slice ao ga.texts.length ct) ∧ w'.cell? ⟨bk, o + q * 6, none⟩ = some (.string ga.name) ∧ w'.cell? ⟨bk, o + q * 6 + 1, none⟩ = some (.int .i64 ga.kind) ∧ w'.cell? ⟨bk, o + q * 6 + 2, none⟩ = some (.int .i64 ga.num) ∧ w'.cell? ⟨bk, o + q * 6 + 3, none⟩ = some (.string ga.text) ∧ w'.cell? ⟨bk, o + q * 6 + 4, none⟩ = some (.slice bi ga.ints.length bci) ∧ w'.cell? ⟨bk, o + q * 6 + 5, none⟩ = some (.slice bo ga.texts.length bct) ∧ Hid (Below w8.heap.size w8 w')) (by kernel_rfl) HSD (fun hHeld => ?_)
        refine wpAnyH_take (i := 0) (v := .int .i64 0) rfl (by kernel_rfl) (by kernel_rfl) (by kernel_rfl) (fun _ _ _ h => h) (Or.inl ⟨by rfl, ?_⟩) hHeld ?_
        · intro w hSw
          try dsimp only at hSw
          go_simp
        simp only [Act.put, List.getElem_toArray, List.getElem_cons_zero, List.setIfInBounds_toArray, List.set_cons_succ, List.set_cons_zero]
        refine wpAnyH_take (i := 1) (v := .bool true) rfl (by kernel_rfl) (by kernel_rfl) (by kernel_rfl) (fun _ _ _ h => h) (Or.inl ⟨by rfl, ?_⟩) hHeld ?_
        · intro w hSw
          try dsimp only at hSw
          go_simp
        simp only [Act.put, List.getElem_toArray, List.getElem_cons_succ, List.getElem_cons_zero, List.setIfInBounds_toArray, List.set_cons_succ, List.set_cons_zero]
        refine wpAnyH_take (i := 2) (v := .bool true) rfl (by kernel_rfl) (by kernel_rfl) (by kernel_rfl) (fun _ _ _ h => h) (Or.inl ⟨by rfl, ?_⟩) hHeld ?_
        · intro w hSw
          try dsimp only at hSw
          go_simp
        simp only [Act.put, List.getElem_toArray, List.getElem_cons_succ, List.getElem_cons_zero, List.setIfInBounds_toArray, List.set_cons_succ, List.set_cons_zero]
        refine wpAnyH_take (i := 3) (v := .agg #[.string ga.name, .int .i64 ga.kind, .int .i64 ga.num, .string ga.text, .slice ai ga.ints.length ci, .slice ao ga.texts.length ct]) rfl (by kernel_rfl) (by kernel_rfl) (by kernel_rfl) (fun _ _ _ h => h) (Or.inl ⟨by rfl, ?_⟩) hHeld ?_
        · intro w hSw
          try dsimp only at hSw
          go_simp
        simp only [Act.put, List.getElem_toArray, List.getElem_cons_succ, List.getElem_cons_zero, List.setIfInBounds_toArray, List.set_cons_succ, List.set_cons_zero]
        refine wpAnyH_take (i := 4) (v := .slice (some ⟨bk, o, none⟩) l.length (q + 1)) rfl (by kernel_rfl) (by kernel_rfl) (by kernel_rfl) (fun _ _ _ h => h) (Or.inl ⟨by rfl, ?_⟩) hHeld ?_
        · intro w hSw
          try dsimp only at hSw
          go_simp
        simp only [Act.put, List.getElem_toArray, List.getElem_cons_succ, List.getElem_cons_zero, List.setIfInBounds_toArray, List.set_cons_succ, List.set_cons_zero]
        refine wpAnyH_take (i := 5) (v := .int .i64 (q : Int)) rfl (by kernel_rfl) (by kernel_rfl) (by kernel_rfl) (fun _ _ _ h => h) (Or.inl ⟨by rfl, ?_⟩) hHeld ?_
        · intro w hSw
          try dsimp only at hSw
          go_simp
        simp only [Act.put, List.getElem_toArray, List.getElem_cons_succ, List.getElem_cons_zero, List.setIfInBounds_toArray, List.set_cons_succ, List.set_cons_zero]
        refine wpAnyH_take (i := 6) (v := .pointer (some ⟨bk, o + q * 6, none⟩)) rfl (by kernel_rfl) (by kernel_rfl) (by kernel_rfl) (fun _ _ _ h => h) (Or.inl ⟨by rfl, ?_⟩) hHeld ?_
        · intro w hSw
          try dsimp only at hSw
          go_simp
        simp only [Act.put, List.getElem_toArray, List.getElem_cons_succ, List.getElem_cons_zero, List.setIfInBounds_toArray, List.set_cons_succ, List.set_cons_zero]
        refine wpAnyH_take (i := 7) (v := .agg #[.string ga.name, .int .i64 ga.kind, .int .i64 ga.num, .string ga.text, .slice bi ga.ints.length bci, .slice bo ga.texts.length bct]) rfl (by kernel_rfl) (by kernel_rfl) (by kernel_rfl) (fun _ _ _ h => h) (Or.inl ⟨by rfl, ?_⟩) hHeld ?_
        · intro w hSw
          try dsimp only at hSw
          go_simp
        simp only [Act.put, List.getElem_toArray, List.getElem_cons_succ, List.getElem_cons_zero, List.setIfInBounds_toArray, List.set_cons_succ, List.set_cons_zero]
        refine wpAnyH_ready (rs := [8]) (by kernel_rfl) (by simp) ?_
        refine AllReadyH.cons rfl (fun K hK => ?_) AllReadyH.nil
        go_simp
        go_at_call 17
        with_reducible refine (HEQ.out _ hHeld).mono ?_
        rintro e w' ⟨rfl, hb⟩
        try dsimp only
        refine hK.out _ _ (HST.out _ _ hHeld hb) (fun hHeld2 => ?_)
        clear hK K hb hHeld HEQ
        try simp only [Act.put, List.getElem_toArray, List.getElem_cons_succ, List.getElem_cons_zero, List.setIfInBounds_toArray, List.set_cons_succ, List.set_cons_zero]
        refine wpAnyH_take (i := 9) (v := .bool true) rfl (by kernel_rfl) (by kernel_rfl) (by kernel_rfl) (fun _ _ _ h => h) (Or.inl ⟨by rfl, ?_⟩) hHeld2 ?_
        · intro w hSw
          try dsimp only at hSw
          go_simp
        simp only [Act.put, List.getElem_toArray, List.getElem_cons_succ, List.getElem_cons_zero, List.setIfInBounds_toArray, List.set_cons_succ, List.set_cons_zero]
        refine wpAnyH_take (i := 10) (v := .bool true) rfl (by kernel_rfl) (by kernel_rfl) (by kernel_rfl) (fun _ _ _ h => h) (Or.inl ⟨by rfl, ?_⟩) hHeld2 ?_
        · intro w hSw
          try dsimp only at hSw
          go_simp
        simp only [Act.put, List.getElem_toArray, List.getElem_cons_succ, List.getElem_cons_zero, List.setIfInBounds_toArray, List.set_cons_succ, List.set_cons_zero]
        refine wpAnyH_take (i := 11) (v := .int .i64 0) rfl (by kernel_rfl) (by kernel_rfl) (by kernel_rfl) (fun _ _ _ h => h) (Or.inl ⟨by rfl, ?_⟩) hHeld2 ?_
        · intro w hSw
          try dsimp only at hSw
          go_simp
        simp only [Act.put, List.getElem_toArray, List.getElem_cons_succ, List.getElem_cons_zero, List.setIfInBounds_toArray, List.set_cons_succ, List.set_cons_zero]
        refine wpAnyH_take (i := 12) (v := .bool true) rfl (by kernel_rfl) (by kernel_rfl) (by kernel_rfl) (fun _ _ _ h => h) (Or.inl ⟨by rfl, ?_⟩) hHeld2 ?_
        · intro w hSw
          try dsimp only at hSw
          go_simp
        simp only [Act.put, List.getElem_toArray, List.getElem_cons_succ, List.getElem_cons_zero, List.setIfInBounds_toArray, List.set_cons_succ, List.set_cons_zero]
        refine wpAnyH_take (i := 13) (v := .bool true) rfl (by kernel_rfl) (by kernel_rfl) (by kernel_rfl) (fun _ _ _ h => h) (Or.inl ⟨by rfl, ?_⟩) hHeld2 ?_
        · intro w hSw
          try dsimp only at hSw
          go_simp
        simp only [Act.put, List.getElem_toArray, List.getElem_cons_succ, List.getElem_cons_zero, List.setIfInBounds_toArray, List.set_cons_succ, List.set_cons_zero]
        refine wpAnyH_take (i := 14) (v := .bool true) rfl (by kernel_rfl) (by kernel_rfl) (by kernel_rfl) (fun _ _ _ h => h) (Or.inl ⟨by rfl, ?_⟩) hHeld2 ?_
        · intro w hSw
          try dsimp only at hSw
          go_simp
        simp only [Act.put, List.getElem_toArray, List.getElem_cons_succ, List.getElem_cons_zero, List.setIfInBounds_toArray, List.set_cons_succ, List.set_cons_zero]
        refine wpAnyH_take (i := 15) (v := .slice so' le.length c') rfl (by kernel_rfl) (by kernel_rfl) (by kernel_rfl) (fun _ _ _ h => h) (Or.inl ⟨by rfl, ?_⟩) hHeld2 ?_
        · intro w hSw
          try dsimp only at hSw
          go_simp
        simp only [Act.put, List.getElem_toArray, List.getElem_cons_succ, List.getElem_cons_zero, List.setIfInBounds_toArray, List.set_cons_succ, List.set_cons_zero]
        refine wpAnyH_take (i := 16) (v := .slice ao2 le.length k2) rfl (by kernel_rfl) (by kernel_rfl) (by kernel_rfl) (fun _ _ _ h => h) (Or.inl ⟨by rfl, ?_⟩) hHeld2 ?_
        · intro w hSw
          try dsimp only at hSw
          go_simp
        simp only [Act.put, List.getElem_toArray, List.getElem_cons_succ, List.getElem_cons_zero, List.setIfInBounds_toArray, List.set_cons_succ, List.set_cons_zero]
        refine wpAnyH_ready (rs := [17]) (by kernel_rfl) (by simp) ?_
        refine AllReadyH.cons rfl (fun K hK => ?_) AllReadyH.nil
        go_simp
        go_at_call 20
        with_reducible refine (HLS.out _ hHeld2).mono ?_
        rintro e w' ⟨rfl, hb⟩
        try dsimp only
        refine hK.out _ _ (HST.out _ _ hHeld2 hb) (fun hHeld3 => ?_)
        clear hK K hb hHeld2 HLS
        try simp only [Act.put, List.getElem_toArray, List.getElem_cons_succ, List.getElem_cons_zero, List.setIfInBounds_toArray, List.set_cons_succ, List.set_cons_zero]
        refine wpAnyH_take (i := 18) (v := .bool true) rfl (by kernel_rfl) (by kernel_rfl) (by kernel_rfl) (fun _ _ _ h => h) (Or.inl ⟨by rfl, ?_⟩) hHeld3 ?_
        · intro w hSw
          try dsimp only at hSw
          go_simp
        simp only [Act.put, List.getElem_toArray, List.getElem_cons_succ, List.getElem_cons_zero, List.setIfInBounds_toArray, List.set_cons_succ, List.set_cons_zero]
        refine wpAnyH_take (i := 19) (v := .bool true) rfl (by kernel_rfl) (by kernel_rfl) (by kernel_rfl) (fun _ _ _ h => h) (Or.inl ⟨by rfl, ?_⟩) hHeld3 ?_
        · intro w hSw
          try dsimp only at hSw
          go_simp
        simp only [Act.put, List.getElem_toArray, List.getElem_cons_succ, List.getElem_cons_zero, List.setIfInBounds_toArray, List.set_cons_succ, List.set_cons_zero]
        refine wpAnyH_ready (rs := [20]) (by kernel_rfl) (by simp) ?_
        refine AllReadyH.cons rfl (fun K hK => ?_) AllReadyH.nil
        go_simp
        go_at_call 18
        with_reducible refine (HAW.out _ hHeld3).mono ?_
        rintro e w' ⟨rfl, hb⟩
        try dsimp only
        refine hK.out _ _ (HST.out _ _ hHeld3 hb) (fun hHeld4 => ?_)
        clear hK K hb hHeld3 HAW
        try simp only [Act.put, List.getElem_toArray, List.getElem_cons_succ, List.getElem_cons_zero, List.setIfInBounds_toArray, List.set_cons_succ, List.set_cons_zero]
        refine wpAnyH_take (i := 21) (v := .bool true) rfl (by kernel_rfl) (by kernel_rfl) (by kernel_rfl) (fun _ _ _ h => h) (Or.inl ⟨by rfl, ?_⟩) hHeld4 ?_
        · intro w hSw
          try dsimp only at hSw
          go_simp
        simp only [Act.put, List.getElem_toArray, List.getElem_cons_succ, List.getElem_cons_zero, List.setIfInBounds_toArray, List.set_cons_succ, List.set_cons_zero]
        refine wpAnyH_take (i := 22) (v := .bool true) rfl (by kernel_rfl) (by kernel_rfl) (by kernel_rfl) (fun _ _ _ h => h) (Or.inl ⟨by rfl, ?_⟩) hHeld4 ?_
        · intro w hSw
          try dsimp only at hSw
          go_simp
        simp only [Act.put, List.getElem_toArray, List.getElem_cons_succ, List.getElem_cons_zero, List.setIfInBounds_toArray, List.set_cons_succ, List.set_cons_zero]
        refine wpAnyH_done (by kernel_rfl) ?_ _
        have BZ := Lib.hid (B8.out.trans ((hHeld4.2.2.2.2.2.2.2.2.2.2.2.2.out).mono B8.out.size))
        clear hHeld4 HST HSD
        go_wp2_with fail
        go_ret
        exact ⟨rfl, BZ.out⟩
      · have HF2 := Lib.hid (show ElsFrom w7 ⟨bk, o + (q + 1) * 6, none⟩ (L.drop (q + 1)) from els_back (fun j hj => (HLC.out j hj).below HBEL.out) (q + 1))
        go_upto_region 14 with (at_builtin; refine wp_append_many rfl _ _ rfl HOWN.out HB1.out HT1.out HF2.out hLq.out hLd.out rfl rfl ?_; intro ao2 k2 w8 hown hbel; have HOWN2 := Lib.hid hown; have HBEL2 := Lib.hid hbel; clear hown hbel)
        have HBB := Lib.hid (HBEL.out.trans HBEL2.out)
        have B8 := Lib.hid (B6.out.trans (HBB.out.mono B6.out.size))
        have T8 := Lib.hid ((HBB.out.block _ (lt_of_block T6.out)).trans T6.out)
        have V8 := Lib.hid (V6.out.below HBB.out)
        have D8 := Lib.hid (D6.out.below HBB.out)
        have E8 := Lib.hid (HEL.out.below HBB.out)
        have R8 := Lib.hid (list_of_own HOWN2.out rfl (fun e he => (HOK.out e (HMEM.out e he)).below HBB.out)).1
        rw [HER.out] at R8
        clear B6 T6 V6 D6 HEL HOWN HOWN2 HBEL HBEL2 HBB HF1 HF2 B7 HOK HMEM
        rw [← HLN.out]
        generalize (l.eraseIdx q) = le at HLN HELN D8 R8 ⊢
        obtain ⟨z0, z1, z2, z3, z4, z5, zf⟩ := cells6 T8.out
        have c0 := E8.out.c0
        have c1 := E8.out.c1
        have c2 := E8.out.c2
        have c3 := E8.out.c3
        have c4 := E8.out.c4
        have c5 := E8.out.c5
        have HEQ := Lib.hid (show ∀ X, (X.cell? ⟨G, 0, none⟩ = some (.string ga.name) ∧ X.cell? ⟨G, 1, none⟩ = some (.int .i64 ga.kind) ∧ X.cell? ⟨G, 2, none⟩ = some (.int .i64 ga.num) ∧ X.cell? ⟨G, 3, none⟩ = some (.string ga.text) ∧ X.cell? ⟨G, 4, none⟩ = some (.slice ai ga.ints.length ci) ∧ X.cell? ⟨G, 5, none⟩ = some (.slice ao ga.texts.length ct) ∧ X.cell? ⟨bk, o + q * 6, none⟩ = some (.string ga.name) ∧ X.cell? ⟨bk, o + q * 6 + 1, none⟩ = some (.int .i64 ga.kind) ∧ X.cell? ⟨bk, o + q * 6 + 2, none⟩ = some (.int .i64 ga.num) ∧ X.cell? ⟨bk, o + q * 6 + 3, none⟩ = some (.string ga.text) ∧ X.cell? ⟨bk, o + q * 6 + 4, none⟩ = some (.slice bi ga.ints.length bci) ∧ X.cell? ⟨bk, o + q * 6 + 5, none⟩ = some (.slice bo ga.texts.length bct) ∧ Hid (Below w8.heap.size w8 X)) → Calls Tryz.prog 17 #[.agg #[.string ga.name, .int .i64 ga.kind, .int .i64 ga.num, .string ga.text, .slice ai ga.ints.length ci, .slice ao ga.texts.length ct], .agg #[.string ga.name, .int .i64 ga.kind, .int .i64 ga.num, .string ga.text, .slice bi ga.ints.length bci, .slice bo ga.texts.length bct]] X (fun e w' => e = .returned (.bool true) ∧ Below X.heap.size X w') from fun X h => equal_same ga _ _ ai ci ao ct bi bci bo bct X (V8.out.below h.2.2.2.2.2.2.2.2.2.2.2.2.out) (E8.out.below h.2.2.2.2.2.2.2.2.2.2.2.2.out).att)
        have HLS := Lib.hid (show ∀ X, (X.cell? ⟨G, 0, none⟩ = some (.string ga.name) ∧ X.cell? ⟨G, 1, none⟩ = some (.int .i64 ga.kind) ∧ X.cell? ⟨G, 2, none⟩ = some (.int .i64 ga.num) ∧ X.cell? ⟨G, 3, none⟩ = some (.string ga.text) ∧ X.cell? ⟨G, 4, none⟩ = some (.slice ai ga.ints.length ci) ∧ X.cell? ⟨G, 5, none⟩ = some (.slice ao ga.texts.length ct) ∧ X.cell? ⟨bk, o + q * 6, none⟩ = some (.string ga.name) ∧ X.cell? ⟨bk, o + q * 6 + 1, none⟩ = some (.int .i64 ga.kind) ∧ X.cell? ⟨bk, o + q * 6 + 2, none⟩ = some (.int .i64 ga.num) ∧ X.cell? ⟨bk, o + q * 6 + 3, none⟩ = some (.string ga.text) ∧ X.cell? ⟨bk, o + q * 6 + 4, none⟩ = some (.slice bi ga.ints.length bci) ∧ X.cell? ⟨bk, o + q * 6 + 5, none⟩ = some (.slice bo ga.texts.length bct) ∧ Hid (Below w8.heap.size w8 X)) → Calls Tryz.prog 20 #[.slice so' le.length c', .slice ao2 le.length k2] X (fun e w' => e = .returned (.bool true) ∧ Below X.heap.size X w') from fun X h => equalLists_same so' ao2 le c' k2 HELN.out X (D8.out.below h.2.2.2.2.2.2.2.2.2.2.2.2.out) (R8.out.below h.2.2.2.2.2.2.2.2.2.2.2.2.out))
        have HAW := Lib.hid (show ∀ X, (X.cell? ⟨G, 0, none⟩ = some (.string ga.name) ∧ X.cell? ⟨G, 1, none⟩ = some (.int .i64 ga.kind) ∧ X.cell? ⟨G, 2, none⟩ = some (.int .i64 ga.num) ∧ X.cell? ⟨G, 3, none⟩ = some (.string ga.text) ∧ X.cell? ⟨G, 4, none⟩ = some (.slice ai ga.ints.length ci) ∧ X.cell? ⟨G, 5, none⟩ = some (.slice ao ga.texts.length ct) ∧ X.cell? ⟨bk, o + q * 6, none⟩ = some (.string ga.name) ∧ X.cell? ⟨bk, o + q * 6 + 1, none⟩ = some (.int .i64 ga.kind) ∧ X.cell? ⟨bk, o + q * 6 + 2, none⟩ = some (.int .i64 ga.num) ∧ X.cell? ⟨bk, o + q * 6 + 3, none⟩ = some (.string ga.text) ∧ X.cell? ⟨bk, o + q * 6 + 4, none⟩ = some (.slice bi ga.ints.length bci) ∧ X.cell? ⟨bk, o + q * 6 + 5, none⟩ = some (.slice bo ga.texts.length bct) ∧ Hid (Below w8.heap.size w8 X)) → Calls Tryz.prog 18 #[] X (fun e w' => e = .returned (.bool true) ∧ Below X.heap.size X w') from fun X h => awake2_any X ((HE.out.below B8.out).below h.2.2.2.2.2.2.2.2.2.2.2.2.out))
        have HST := Lib.hid (show ∀ X Y, (X.cell? ⟨G, 0, none⟩ = some (.string ga.name) ∧ X.cell? ⟨G, 1, none⟩ = some (.int .i64 ga.kind) ∧ X.cell? ⟨G, 2, none⟩ = some (.int .i64 ga.num) ∧ X.cell? ⟨G, 3, none⟩ = some (.string ga.text) ∧ X.cell? ⟨G, 4, none⟩ = some (.slice ai ga.ints.length ci) ∧ X.cell? ⟨G, 5, none⟩ = some (.slice ao ga.texts.length ct) ∧ X.cell? ⟨bk, o + q * 6, none⟩ = some (.string ga.name) ∧ X.cell? ⟨bk, o + q * 6 + 1, none⟩ = some (.int .i64 ga.kind) ∧ X.cell? ⟨bk, o + q * 6 + 2, none⟩ = some (.int .i64 ga.num) ∧ X.cell? ⟨bk, o + q * 6 + 3, none⟩ = some (.string ga.text) ∧ X.cell? ⟨bk, o + q * 6 + 4, none⟩ = some (.slice bi ga.ints.length bci) ∧ X.cell? ⟨bk, o + q * 6 + 5, none⟩ = some (.slice bo ga.texts.length bct) ∧ Hid (Below w8.heap.size w8 X)) → Below X.heap.size X Y → (Y.cell? ⟨G, 0, none⟩ = some (.string ga.name) ∧ Y.cell? ⟨G, 1, none⟩ = some (.int .i64 ga.kind) ∧ Y.cell? ⟨G, 2, none⟩ = some (.int .i64 ga.num) ∧ Y.cell? ⟨G, 3, none⟩ = some (.string ga.text) ∧ Y.cell? ⟨G, 4, none⟩ = some (.slice ai ga.ints.length ci) ∧ Y.cell? ⟨G, 5, none⟩ = some (.slice ao ga.texts.length ct) ∧ Y.cell? ⟨bk, o + q * 6, none⟩ = some (.string ga.name) ∧ Y.cell? ⟨bk, o + q * 6 + 1, none⟩ = some (.int .i64 ga.kind) ∧ Y.cell? ⟨bk, o + q * 6 + 2, none⟩ = some (.int .i64 ga.num) ∧ Y.cell? ⟨bk, o + q * 6 + 3, none⟩ = some (.string ga.text) ∧ Y.cell? ⟨bk, o + q * 6 + 4, none⟩ = some (.slice bi ga.ints.length bci) ∧ Y.cell? ⟨bk, o + q * 6 + 5, none⟩ = some (.slice bo ga.texts.length bct) ∧ Hid (Below w8.heap.size w8 Y)) from fun X Y h hb => by
          obtain ⟨h0, h1, h2, h3, h4, h5, h6, h7, h8, h9, h10, h11, hB⟩ := h
          have hc : ∀ {x : Addr} {v : Value}, X.cell? x = some v → Y.cell? x = some v := fun hx => (hb.cell (block_lt_of_cell hx)).trans hx
          exact ⟨hc h0, hc h1, hc h2, hc h3, hc h4, hc h5, hc h6, hc h7, hc h8, hc h9, hc h10, hc h11, hB.out.trans (hb.mono hB.out.size)⟩)
        have HSD : w8.drew.cell? ⟨G, 0, none⟩ = some (.string ga.name) ∧ w8.drew.cell? ⟨G, 1, none⟩ = some (.int .i64 ga.kind) ∧ w8.drew.cell? ⟨G, 2, none⟩ = some (.int .i64 ga.num) ∧ w8.drew.cell? ⟨G, 3, none⟩ = some (.string ga.text) ∧ w8.drew.cell? ⟨G, 4, none⟩ = some (.slice ai ga.ints.length ci) ∧ w8.drew.cell? ⟨G, 5, none⟩ = some (.slice ao ga.texts.length ct) ∧ w8.drew.cell? ⟨bk, o + q * 6, none⟩ = some (.string ga.name) ∧ w8.drew.cell? ⟨bk, o + q * 6 + 1, none⟩ = some (.int .i64 ga.kind) ∧ w8.drew.cell? ⟨bk, o + q * 6 + 2, none⟩ = some (.int .i64 ga.num) ∧ w8.drew.cell? ⟨bk, o + q * 6 + 3, none⟩ = some (.string ga.text) ∧ w8.drew.cell? ⟨bk, o + q * 6 + 4, none⟩ = some (.slice bi ga.ints.length bci) ∧ w8.drew.cell? ⟨bk, o + q * 6 + 5, none⟩ = some (.slice bo ga.texts.length bct) ∧ Hid (Below w8.heap.size w8 w8.drew) := ⟨z0, z1, z2, z3, z4, z5, c0, c1, c2, c3, c4, c5, (Below.refl w8.heap.size w8).drew⟩
        clear T8 V8 D8 R8 E8 c0 c1 c2 c3 c4 c5 z0 z1 z2 z3 z4 z5 zf
        refine wp_region_held_drew (S := fun w' => w'.cell? ⟨G, 0, none⟩ = some (.string ga.name) ∧ w'.cell? ⟨G, 1, none⟩ = some (.int .i64 ga.kind) ∧ w'.cell? ⟨G, 2, none⟩ = some (.int .i64 ga.num) ∧ w'.cell? ⟨G, 3, none⟩ = some (.string ga.text) ∧ w'.cell? ⟨G, 4, none⟩ = some (.slice ai ga.ints.length ci) ∧ w'.cell? ⟨G, 5, none⟩ = some (.slice ao ga.texts.length ct) ∧ w'.cell? ⟨bk, o + q * 6, none⟩ = some (.string ga.name) ∧ w'.cell? ⟨bk, o + q * 6 + 1, none⟩ = some (.int .i64 ga.kind) ∧ w'.cell? ⟨bk, o + q * 6 + 2, none⟩ = some (.int .i64 ga.num) ∧ w'.cell? ⟨bk, o + q * 6 + 3, none⟩ = some (.string ga.text) ∧ w'.cell? ⟨bk, o + q * 6 + 4, none⟩ = some (.slice bi ga.ints.length bci) ∧ w'.cell? ⟨bk, o + q * 6 + 5, none⟩ = some (.slice bo ga.texts.length bct) ∧ Hid (Below w8.heap.size w8 w')) (by kernel_rfl) HSD (fun hHeld => ?_)
        refine wpAnyH_take (i := 0) (v := .int .i64 0) rfl (by kernel_rfl) (by kernel_rfl) (by kernel_rfl) (fun _ _ _ h => h) (Or.inl ⟨by rfl, ?_⟩) hHeld ?_
        · intro w hSw
          try dsimp only at hSw
          go_simp
        simp only [Act.put, List.getElem_toArray, List.getElem_cons_zero, List.setIfInBounds_toArray, List.set_cons_succ, List.set_cons_zero]
        refine wpAnyH_take (i := 1) (v := .bool true) rfl (by kernel_rfl) (by kernel_rfl) (by kernel_rfl) (fun _ _ _ h => h) (Or.inl ⟨by rfl, ?_⟩) hHeld ?_
        · intro w hSw
          try dsimp only at hSw
          go_simp
        simp only [Act.put, List.getElem_toArray, List.getElem_cons_succ, List.getElem_cons_zero, List.setIfInBounds_toArray, List.set_cons_succ, List.set_cons_zero]
        refine wpAnyH_take (i := 2) (v := .bool true) rfl (by kernel_rfl) (by kernel_rfl) (by kernel_rfl) (fun _ _ _ h => h) (Or.inl ⟨by rfl, ?_⟩) hHeld ?_
        · intro w hSw
          try dsimp only at hSw
          go_simp
        simp only [Act.put, List.getElem_toArray, List.getElem_cons_succ, List.getElem_cons_zero, List.setIfInBounds_toArray, List.set_cons_succ, List.set_cons_zero]
        refine wpAnyH_take (i := 3) (v := .agg #[.string ga.name, .int .i64 ga.kind, .int .i64 ga.num, .string ga.text, .slice ai ga.ints.length ci, .slice ao ga.texts.length ct]) rfl (by kernel_rfl) (by kernel_rfl) (by kernel_rfl) (fun _ _ _ h => h) (Or.inl ⟨by rfl, ?_⟩) hHeld ?_
        · intro w hSw
          try dsimp only at hSw
          go_simp
        simp only [Act.put, List.getElem_toArray, List.getElem_cons_succ, List.getElem_cons_zero, List.setIfInBounds_toArray, List.set_cons_succ, List.set_cons_zero]
        refine wpAnyH_take (i := 4) (v := .slice (some ⟨bk, o, none⟩) l.length c) rfl (by kernel_rfl) (by kernel_rfl) (by kernel_rfl) (fun _ _ _ h => h) (Or.inl ⟨by rfl, ?_⟩) hHeld ?_
        · intro w hSw
          try dsimp only at hSw
          go_simp
        simp only [Act.put, List.getElem_toArray, List.getElem_cons_succ, List.getElem_cons_zero, List.setIfInBounds_toArray, List.set_cons_succ, List.set_cons_zero]
        refine wpAnyH_take (i := 5) (v := .int .i64 (q : Int)) rfl (by kernel_rfl) (by kernel_rfl) (by kernel_rfl) (fun _ _ _ h => h) (Or.inl ⟨by rfl, ?_⟩) hHeld ?_
        · intro w hSw
          try dsimp only at hSw
          go_simp
        simp only [Act.put, List.getElem_toArray, List.getElem_cons_succ, List.getElem_cons_zero, List.setIfInBounds_toArray, List.set_cons_succ, List.set_cons_zero]
        refine wpAnyH_take (i := 6) (v := .pointer (some ⟨bk, o + q * 6, none⟩)) rfl (by kernel_rfl) (by kernel_rfl) (by kernel_rfl) (fun _ _ _ h => h) (Or.inl ⟨by rfl, ?_⟩) hHeld ?_
        · intro w hSw
          try dsimp only at hSw
          go_simp
        simp only [Act.put, List.getElem_toArray, List.getElem_cons_succ, List.getElem_cons_zero, List.setIfInBounds_toArray, List.set_cons_succ, List.set_cons_zero]
        refine wpAnyH_take (i := 7) (v := .agg #[.string ga.name, .int .i64 ga.kind, .int .i64 ga.num, .string ga.text, .slice bi ga.ints.length bci, .slice bo ga.texts.length bct]) rfl (by kernel_rfl) (by kernel_rfl) (by kernel_rfl) (fun _ _ _ h => h) (Or.inl ⟨by rfl, ?_⟩) hHeld ?_
        · intro w hSw
          try dsimp only at hSw
          go_simp
        simp only [Act.put, List.getElem_toArray, List.getElem_cons_succ, List.getElem_cons_zero, List.setIfInBounds_toArray, List.set_cons_succ, List.set_cons_zero]
        refine wpAnyH_ready (rs := [8]) (by kernel_rfl) (by simp) ?_
        refine AllReadyH.cons rfl (fun K hK => ?_) AllReadyH.nil
        go_simp
        go_at_call 17
        with_reducible refine (HEQ.out _ hHeld).mono ?_
        rintro e w' ⟨rfl, hb⟩
        try dsimp only
        refine hK.out _ _ (HST.out _ _ hHeld hb) (fun hHeld2 => ?_)
        clear hK K hb hHeld HEQ
        try simp only [Act.put, List.getElem_toArray, List.getElem_cons_succ, List.getElem_cons_zero, List.setIfInBounds_toArray, List.set_cons_succ, List.set_cons_zero]
        refine wpAnyH_take (i := 9) (v := .bool true) rfl (by kernel_rfl) (by kernel_rfl) (by kernel_rfl) (fun _ _ _ h => h) (Or.inl ⟨by rfl, ?_⟩) hHeld2 ?_
        · intro w hSw
          try dsimp only at hSw
          go_simp
        simp only [Act.put, List.getElem_toArray, List.getElem_cons_succ, List.getElem_cons_zero, List.setIfInBounds_toArray, List.set_cons_succ, List.set_cons_zero]
        refine wpAnyH_take (i := 10) (v := .bool true) rfl (by kernel_rfl) (by kernel_rfl) (by kernel_rfl) (fun _ _ _ h => h) (Or.inl ⟨by rfl, ?_⟩) hHeld2 ?_
        · intro w hSw
          try dsimp only at hSw
          go_simp
        simp only [Act.put, List.getElem_toArray, List.getElem_cons_succ, List.getElem_cons_zero, List.setIfInBounds_toArray, List.set_cons_succ, List.set_cons_zero]
        refine wpAnyH_take (i := 11) (v := .int .i64 0) rfl (by kernel_rfl) (by kernel_rfl) (by kernel_rfl) (fun _ _ _ h => h) (Or.inl ⟨by rfl, ?_⟩) hHeld2 ?_
        · intro w hSw
          try dsimp only at hSw
          go_simp
        simp only [Act.put, List.getElem_toArray, List.getElem_cons_succ, List.getElem_cons_zero, List.setIfInBounds_toArray, List.set_cons_succ, List.set_cons_zero]
        refine wpAnyH_take (i := 12) (v := .bool true) rfl (by kernel_rfl) (by kernel_rfl) (by kernel_rfl) (fun _ _ _ h => h) (Or.inl ⟨by rfl, ?_⟩) hHeld2 ?_
        · intro w hSw
          try dsimp only at hSw
          go_simp
        simp only [Act.put, List.getElem_toArray, List.getElem_cons_succ, List.getElem_cons_zero, List.setIfInBounds_toArray, List.set_cons_succ, List.set_cons_zero]
        refine wpAnyH_take (i := 13) (v := .bool true) rfl (by kernel_rfl) (by kernel_rfl) (by kernel_rfl) (fun _ _ _ h => h) (Or.inl ⟨by rfl, ?_⟩) hHeld2 ?_
        · intro w hSw
          try dsimp only at hSw
          go_simp
        simp only [Act.put, List.getElem_toArray, List.getElem_cons_succ, List.getElem_cons_zero, List.setIfInBounds_toArray, List.set_cons_succ, List.set_cons_zero]
        refine wpAnyH_take (i := 14) (v := .bool true) rfl (by kernel_rfl) (by kernel_rfl) (by kernel_rfl) (fun _ _ _ h => h) (Or.inl ⟨by rfl, ?_⟩) hHeld2 ?_
        · intro w hSw
          try dsimp only at hSw
          go_simp
        simp only [Act.put, List.getElem_toArray, List.getElem_cons_succ, List.getElem_cons_zero, List.setIfInBounds_toArray, List.set_cons_succ, List.set_cons_zero]
        refine wpAnyH_take (i := 15) (v := .slice so' le.length c') rfl (by kernel_rfl) (by kernel_rfl) (by kernel_rfl) (fun _ _ _ h => h) (Or.inl ⟨by rfl, ?_⟩) hHeld2 ?_
        · intro w hSw
          try dsimp only at hSw
          go_simp
        simp only [Act.put, List.getElem_toArray, List.getElem_cons_succ, List.getElem_cons_zero, List.setIfInBounds_toArray, List.set_cons_succ, List.set_cons_zero]
        refine wpAnyH_take (i := 16) (v := .slice ao2 le.length k2) rfl (by kernel_rfl) (by kernel_rfl) (by kernel_rfl) (fun _ _ _ h => h) (Or.inl ⟨by rfl, ?_⟩) hHeld2 ?_
        · intro w hSw
          try dsimp only at hSw
          go_simp
        simp only [Act.put, List.getElem_toArray, List.getElem_cons_succ, List.getElem_cons_zero, List.setIfInBounds_toArray, List.set_cons_succ, List.set_cons_zero]
        refine wpAnyH_ready (rs := [17]) (by kernel_rfl) (by simp) ?_
        refine AllReadyH.cons rfl (fun K hK => ?_) AllReadyH.nil
        go_simp
        go_at_call 20
        with_reducible refine (HLS.out _ hHeld2).mono ?_
        rintro e w' ⟨rfl, hb⟩
        try dsimp only
        refine hK.out _ _ (HST.out _ _ hHeld2 hb) (fun hHeld3 => ?_)
        clear hK K hb hHeld2 HLS
        try simp only [Act.put, List.getElem_toArray, List.getElem_cons_succ, List.getElem_cons_zero, List.setIfInBounds_toArray, List.set_cons_succ, List.set_cons_zero]
        refine wpAnyH_take (i := 18) (v := .bool true) rfl (by kernel_rfl) (by kernel_rfl) (by kernel_rfl) (fun _ _ _ h => h) (Or.inl ⟨by rfl, ?_⟩) hHeld3 ?_
        · intro w hSw
          try dsimp only at hSw
          go_simp
        simp only [Act.put, List.getElem_toArray, List.getElem_cons_succ, List.getElem_cons_zero, List.setIfInBounds_toArray, List.set_cons_succ, List.set_cons_zero]
        refine wpAnyH_take (i := 19) (v := .bool true) rfl (by kernel_rfl) (by kernel_rfl) (by kernel_rfl) (fun _ _ _ h => h) (Or.inl ⟨by rfl, ?_⟩) hHeld3 ?_
        · intro w hSw
          try dsimp only at hSw
          go_simp
        simp only [Act.put, List.getElem_toArray, List.getElem_cons_succ, List.getElem_cons_zero, List.setIfInBounds_toArray, List.set_cons_succ, List.set_cons_zero]
        refine wpAnyH_ready (rs := [20]) (by kernel_rfl) (by simp) ?_
        refine AllReadyH.cons rfl (fun K hK => ?_) AllReadyH.nil
        go_simp
        go_at_call 18
        with_reducible refine (HAW.out _ hHeld3).mono ?_
        rintro e w' ⟨rfl, hb⟩
        try dsimp only
        refine hK.out _ _ (HST.out _ _ hHeld3 hb) (fun hHeld4 => ?_)
        clear hK K hb hHeld3 HAW
        try simp only [Act.put, List.getElem_toArray, List.getElem_cons_succ, List.getElem_cons_zero, List.setIfInBounds_toArray, List.set_cons_succ, List.set_cons_zero]
        refine wpAnyH_take (i := 21) (v := .bool true) rfl (by kernel_rfl) (by kernel_rfl) (by kernel_rfl) (fun _ _ _ h => h) (Or.inl ⟨by rfl, ?_⟩) hHeld4 ?_
        · intro w hSw
          try dsimp only at hSw
          go_simp
        simp only [Act.put, List.getElem_toArray, List.getElem_cons_succ, List.getElem_cons_zero, List.setIfInBounds_toArray, List.set_cons_succ, List.set_cons_zero]
        refine wpAnyH_take (i := 22) (v := .bool true) rfl (by kernel_rfl) (by kernel_rfl) (by kernel_rfl) (fun _ _ _ h => h) (Or.inl ⟨by rfl, ?_⟩) hHeld4 ?_
        · intro w hSw
          try dsimp only at hSw
          go_simp
        simp only [Act.put, List.getElem_toArray, List.getElem_cons_succ, List.getElem_cons_zero, List.setIfInBounds_toArray, List.set_cons_succ, List.set_cons_zero]
        refine wpAnyH_done (by kernel_rfl) ?_ _
        have BZ := Lib.hid (B8.out.trans ((hHeld4.2.2.2.2.2.2.2.2.2.2.2.2.out).mono B8.out.size))
        clear hHeld4 HST HSD
        go_wp2_with fail
        go_ret
        exact ⟨rfl, BZ.out⟩
end Go.Proofs.YtiofnjnaleglgaaGreatDoor
