/-
  Texts of mine in one file: KAtBK.
-/
import Derived.Test.YtiofnjnaleglgaaGreatDoorNRW
import Derived.Test.YtiofnjnaleglgaaGreatDoorG28
import Derived.Test.YtiofnjnaleglgaaGreatDoorG30
/-
  The walk of the law 'AttrsBack'.
-/
namespace Go.Proofs.YtiofnjnaleglgaaGreatDoor
open Go.RowKit

theorem lim_shortB {s : ByteArray} (h : s.size ≤ 262144) : limErr s = 0 ∧ limStr s = s := by
  unfold limErr limStr
  rw [if_neg (by omega), if_neg (by omega)]
  exact ⟨rfl, rfl⟩
theorem val_goodB {a : At} (h : rightB a = true) (hw : a.Wf) : valErr a = 0 ∧ valStr a = ⟨(valueL a).toArray⟩ := by
  have hl := value_len h hw
  have hs : (⟨(valueL a).toArray⟩ : ByteArray).size = (valueL a).length := mk_size _
  have := lim_shortB (s := ⟨(valueL a).toArray⟩) (by omega)
  unfold valErr valStr
  rw [h]
  exact this
theorem val_badB {a : At} (h : rightB a = false) : valErr a = 20 ∧ valStr a = ⟨#[]⟩ := by
  unfold valErr valStr
  rw [h]
  exact ⟨rfl, rfl⟩
theorem pr_badB {l : List At} (h : rightL l = false) : prErr l = 20 ∧ prStr l = ⟨#[]⟩ := by
  unfold prErr prStr
  rw [h]
  exact ⟨rfl, rfl⟩
theorem pr_longB {l : List At} (h : rightL l = true) (hn : 262144 < (listL l).length) : prErr l = 2 ∧ prStr l = ⟨#[]⟩ := by
  have hs : (⟨(listL l).toArray⟩ : ByteArray).size = (listL l).length := mk_size _
  unfold prErr prStr limErr limStr
  rw [h, if_pos rfl, if_pos rfl, if_pos (by omega), if_pos (by omega)]
  exact ⟨rfl, rfl⟩
theorem pr_goodB {l : List At} (h : rightL l = true) (hn : ¬ 262144 < (listL l).length) : prErr l = 0 ∧ prStr l = ⟨(listL l).toArray⟩ := by
  have hs : (⟨(listL l).toArray⟩ : ByteArray).size = (listL l).length := mk_size _
  unfold prErr prStr limErr limStr
  rw [h, if_pos rfl, if_pos rfl, if_neg (by omega), if_neg (by omega)]
  exact ⟨rfl, rfl⟩
theorem self_beqB (x : ByteArray) : (x.toList == x.toList) = true := by simp
theorem pr_zero {l : List At} (h : prErr l = 0) : rightL l = true ∧ ¬ 262144 < (listL l).length ∧ prStr l = ⟨(listL l).toArray⟩ := by
  cases hr : rightL l with
  | false => rw [(pr_badB hr).1] at h; exact absurd h (by decide)
  | true =>
    by_cases hn : 262144 < (listL l).length
    · rw [(pr_longB hr hn).1] at h; exact absurd h (by decide)
    · exact ⟨rfl, hn, (pr_goodB hr hn).2⟩
theorem list_wf {w : World} {so : Option Addr} {l : List At} (h : ListAt w so l) : ∀ a ∈ l, a.Wf := fun a ha => by
  obtain ⟨j, hj, rfl⟩ := nth_mem ha
  rcases h with h | ⟨bk, o, _, hc⟩
  · rw [h] at hj; exact absurd hj (Nat.not_lt_zero _)
  · obtain ⟨_, _, _, _, h⟩ := hc j hj
    exact h.wf

theorem short3 {H : Type} {d : DataW H} {s : ByteArray} (hk : Rows.uptoSmall H [d, .lit (.string s.data.toList)] = true) : s.size ≤ 1048576 := by
  have h : Rows.uptoBulkAll [d, DataW.lit (H := H) (.string s.data.toList)] ≤ 1048576 := of_decide_eq_true hk
  simp only [Rows.uptoBulkAll, Rows.uptoBulk] at h
  rw [size_eq]
  omega

set_option maxHeartbeats 8000000 in
set_option maxRecDepth 100000 in
theorem AttrsBack_any (so : Option Addr) (l : List At) (c : Nat) (s : ByteArray) (hc : l.length ≤ c) (hc63 : c ≤ 9223372036854775807) (hs : s.size ≤ 1048576) (w : World) (hl : ListAt w so l) (hE : Env w) :
    Calls Tryz.prog 11 #[.slice so l.length c, .string s] w fun e w' => e = .returned (.bool true) ∧ Below w.heap.size w w' := by
  have HE := Lib.hid hE
  have HL := Lib.hid hl
  have HSZ := Lib.hid hs
  have HN := Lib.hid (show l.length ≤ 9223372036854775807 by omega)
  clear hE hl hs hc hc63
  go_enter Tryz.func11, Tryz.ntmps11
  go_wp2_with fail
  refine (Print_any so l c HN.out w HL.out HE.out).mono ?_
  rintro e w1 ⟨rfl, hb⟩
  have B1 := Lib.hid hb
  have L1 := Lib.hid (HL.out.below hb)
  clear hb
  obtain ⟨PS, hPS⟩ : ∃ PS, PS = prStr l := ⟨_, rfl⟩
  obtain ⟨PE, hPE⟩ : ∃ PE, PE = prErr l := ⟨_, rfl⟩
  rw [← hPS, ← hPE]
  have HPS := Lib.hid hPS
  have HPE := Lib.hid hPE
  clear hPS hPE
  go_upto_if 28 with fail
  go_cut [4] (fun x w' => x = .bool false ∧ Hid (Below w.heap.size w w'))
  case first =>
    by_cases hz : PE = 0
    · have HZ := Lib.hid (pr_zero (HPE.out.symm.trans hz))
      have HP := Lib.hid (HPS.out.trans HZ.out.2.2)
      have hps : PS.size ≤ 262144 := by
        rw [HP.out]
        have h1 : (⟨(listL l).toArray⟩ : ByteArray).size = (listL l).length := mk_size _
        have := HZ.out.2.1
        omega
      have HG := Lib.hid (show Good PS l from ⟨HZ.out.1, list_wf HL.out, by rw [HP.out]⟩)
      have HPZ := Lib.hid hps
      have HLN := Lib.hid (show l.length ≤ 1000000 by have := ((rightL_rise l).1 HZ.out.1).1; omega)
      subst hz
      clear hps
      go_wp2_with fail
      refine (Parse_any PS (by have := HPZ.out; omega) w1 (HE.out.below B1.out)).mono ?_
      rintro e w3 ⟨hb, (⟨L, po, pc, rfl, hl, hc, hr, ht, hu⟩ | ⟨rfl, hno⟩)⟩
      rotate_left
      · exact absurd HG.out (hno l)
      obtain rfl : L = l := hu l HG.out
      have B3 := Lib.hid (B1.out.trans (hb.mono B1.out.size))
      have L3 := Lib.hid (L1.out.below hb)
      have P3 := Lib.hid hl
      clear hb hl hc hr ht hu
      go_wp2_with fail
      refine (equalLists_same so po L c pc (by exact HLN.out) w3 L3.out P3.out).mono ?_
      rintro e w4 ⟨rfl, hb⟩
      have B4 := Lib.hid (B3.out.trans (hb.mono B3.out.size))
      clear hb
      go_wp2_with fail
      go_meet
      exact ⟨rfl, B4.out⟩
    · go_wp2_with fail
      go_meet
      exact ⟨rfl, B1.out⟩
  case rest =>
  obtain ⟨rfl, hb⟩ := hcut
  obtain ⟨W2, rfl⟩ : ∃ W2, W2 = wc := ⟨_, rfl⟩
  have B2 := Lib.hid hb.out
  clear hb B1 L1
  go_upto_block 0 with fail
  go_cut [4] (fun x w' => x = .bool false ∧ Hid (Below w.heap.size w w'))
  case first =>
    go_wp2_with fail
    go_loopw [4, 9] (fun x i wr => x = .bool false ∧ ∃ q : Nat, q ≤ l.length ∧ i = .int .i64 q ∧ Hid (Below w.heap.size w wr)) (fun _ i _ => l.length - (intOf i).toNat)
    case atStart => exact ⟨rfl, 0, Nat.zero_le _, rfl, B2.out⟩
    case round =>
      obtain ⟨rfl, q, hq, rfl, HB⟩ := hrel
      by_cases hlt : q < l.length
      rotate_left
      · have h1 : ¬ (q : Int) < (l.length : Int) := by omega
        clear hlt
        go_wp2_with fail
        go_meet
        exact ⟨rfl, HB.out⟩
      have h1 : (q : Int) < (l.length : Int) := by omega
      by_cases hz : PE = 0
      rotate_left
      · clear hlt
        go_wp2_with fail
        go_meet
        exact ⟨rfl, HB.out⟩
      have HZ := Lib.hid (pr_zero (HPE.out.symm.trans hz))
      subst hz
      rcases HL.out with h0 | ⟨bk, o, rfl, hc⟩
      · rw [h0] at hlt; exact absurd hlt (Nat.not_lt_zero _)
      obtain ⟨ai, ci, ao, ct, hel⟩ := hc q hlt
      have HEL := Lib.hid hel
      have HR := Lib.hid (rightL_all HZ.out.1 (nth l q) (by rw [nth_get hlt]; exact List.getElem_mem hlt))
      have HQ := Lib.hid hlt
      clear hel hc hlt
      generalize nth l q = a at HEL HR
      have E0 := Lib.hid (HEL.out.below HB.out)
      have VS := Lib.hid (value_len HR.out HEL.out.wf)
      have c0 := E0.out.c0
      have c1 := E0.out.c1
      have c2 := E0.out.c2
      have c3 := E0.out.c3
      have c4 := E0.out.c4
      have c5 := E0.out.c5
      go_wp2_with fail
      refine (Value_any a _ ai ci ao ct wr E0.out.att (HE.out.below HB.out)).mono ?_
      rintro e w4 ⟨rfl, hb⟩
      rw [(val_goodB HR.out HEL.out.wf).1, (val_goodB HR.out HEL.out.wf).2]
      have B4 := Lib.hid (HB.out.trans (hb.mono HB.out.size))
      have E4 := Lib.hid (E0.out.below hb)
      clear hb E0 c0 c1 c2 c3 c4 c5
      obtain ⟨V, hV⟩ : ∃ V : ByteArray, V = ⟨(valueL a).toArray⟩ := ⟨_, rfl⟩
      rw [← hV]
      have HV := Lib.hid hV
      have HVL := Lib.hid (show V.data.toList = valueL a by rw [hV])
      have HVZ := Lib.hid (show V.size ≤ 1048576 from by
        have h2 : V.size = (valueL a).length := by rw [hV]; exact mk_size _
        have := VS.out
        omega)
      clear hV
      have c0 := E4.out.c0
      go_wp2_with fail
      refine (Read_u a.name V HVZ.out w4 (HE.out.below B4.out)).mono ?_
      rintro e w5 ⟨x, xi, xci, xo, xct, er, rfl, hat, hf, hb⟩
      have HX : Hid (er = 0 ∧ x = a) := by
        show _ ∧ _
        rcases hf with ⟨he, _, hnm, hr, hv⟩ | ⟨_, _, _, hno⟩ | ⟨_, hn, _⟩
        · exact ⟨he, (value_uniq HE.out hr HR.out hat.wf HEL.out.wf hnm.symm (by rw [hv, HVL.out])).symm⟩
        · exact absurd HVL.out.symm (hno a HR.out HEL.out.wf rfl)
        · rw [(right_cases HR.out).1] at hn; cases hn
      obtain ⟨he, hxa⟩ := HX.out
      subst he hxa
      have hal := alloc_below w5 (.cells #[.string x.name, .int .i64 x.kind, .int .i64 x.num, .string x.text, .slice xi x.ints.length xci, .slice xo x.texts.length xct] 29)
      have T5 := Lib.hid (heap_alloc_new w5 (.cells #[.string x.name, .int .i64 x.kind, .int .i64 x.num, .string x.text, .slice xi x.ints.length xci, .slice xo x.texts.length xct] 29))
      have B5 := Lib.hid (B4.out.trans ((hb.trans (hal.mono hb.size)).mono B4.out.size))
      have E5 := Lib.hid ((E4.out.below hb).below hal)
      have A5 := Lib.hid (hat.below hal)
      clear hb hal hat hf B4 E4 c0 HX
      go_upto_region 11 with fail
      generalize w5.alloc (.cells #[.string x.name, .int .i64 x.kind, .int .i64 x.num, .string x.text, .slice xi x.ints.length xci, .slice xo x.texts.length xct] 29) = W5 at T5 B5 E5 A5 ⊢
      generalize w5.heap.size = D at T5 ⊢
      have hS0 : W5.cell? ⟨D, 0, none⟩ = some (.string x.name) ∧ W5.cell? ⟨D, 1, none⟩ = some (.int .i64 x.kind) ∧ W5.cell? ⟨D, 2, none⟩ = some (.int .i64 x.num) ∧ W5.cell? ⟨D, 3, none⟩ = some (.string x.text) ∧ W5.cell? ⟨D, 4, none⟩ = some (.slice xi x.ints.length xci) ∧ W5.cell? ⟨D, 5, none⟩ = some (.slice xo x.texts.length xct) ∧ W5.cell? ⟨bk, o + q * 6, none⟩ = some (.string x.name) ∧ W5.cell? ⟨bk, o + q * 6 + 1, none⟩ = some (.int .i64 x.kind) ∧ W5.cell? ⟨bk, o + q * 6 + 2, none⟩ = some (.int .i64 x.num) ∧ W5.cell? ⟨bk, o + q * 6 + 3, none⟩ = some (.string x.text) ∧ W5.cell? ⟨bk, o + q * 6 + 4, none⟩ = some (.slice ai x.ints.length ci) ∧ W5.cell? ⟨bk, o + q * 6 + 5, none⟩ = some (.slice ao x.texts.length ct) ∧ Hid (Below W5.heap.size W5 W5) := by
        obtain ⟨d0, d1, d2, d3, d4, d5, _⟩ := cells6 T5.out
        exact ⟨d0, d1, d2, d3, d4, d5, E5.out.c0, E5.out.c1, E5.out.c2, E5.out.c3, E5.out.c4, E5.out.c5, Below.refl _ _⟩
      have HST := Lib.hid (show ∀ X Y, (X.cell? ⟨D, 0, none⟩ = some (.string x.name) ∧ X.cell? ⟨D, 1, none⟩ = some (.int .i64 x.kind) ∧ X.cell? ⟨D, 2, none⟩ = some (.int .i64 x.num) ∧ X.cell? ⟨D, 3, none⟩ = some (.string x.text) ∧ X.cell? ⟨D, 4, none⟩ = some (.slice xi x.ints.length xci) ∧ X.cell? ⟨D, 5, none⟩ = some (.slice xo x.texts.length xct) ∧ X.cell? ⟨bk, o + q * 6, none⟩ = some (.string x.name) ∧ X.cell? ⟨bk, o + q * 6 + 1, none⟩ = some (.int .i64 x.kind) ∧ X.cell? ⟨bk, o + q * 6 + 2, none⟩ = some (.int .i64 x.num) ∧ X.cell? ⟨bk, o + q * 6 + 3, none⟩ = some (.string x.text) ∧ X.cell? ⟨bk, o + q * 6 + 4, none⟩ = some (.slice ai x.ints.length ci) ∧ X.cell? ⟨bk, o + q * 6 + 5, none⟩ = some (.slice ao x.texts.length ct) ∧ Hid (Below W5.heap.size W5 X)) → Below X.heap.size X Y → (Y.cell? ⟨D, 0, none⟩ = some (.string x.name) ∧ Y.cell? ⟨D, 1, none⟩ = some (.int .i64 x.kind) ∧ Y.cell? ⟨D, 2, none⟩ = some (.int .i64 x.num) ∧ Y.cell? ⟨D, 3, none⟩ = some (.string x.text) ∧ Y.cell? ⟨D, 4, none⟩ = some (.slice xi x.ints.length xci) ∧ Y.cell? ⟨D, 5, none⟩ = some (.slice xo x.texts.length xct) ∧ Y.cell? ⟨bk, o + q * 6, none⟩ = some (.string x.name) ∧ Y.cell? ⟨bk, o + q * 6 + 1, none⟩ = some (.int .i64 x.kind) ∧ Y.cell? ⟨bk, o + q * 6 + 2, none⟩ = some (.int .i64 x.num) ∧ Y.cell? ⟨bk, o + q * 6 + 3, none⟩ = some (.string x.text) ∧ Y.cell? ⟨bk, o + q * 6 + 4, none⟩ = some (.slice ai x.ints.length ci) ∧ Y.cell? ⟨bk, o + q * 6 + 5, none⟩ = some (.slice ao x.texts.length ct) ∧ Hid (Below W5.heap.size W5 Y)) from fun X Y h hb => by
        obtain ⟨h0, h1, h2, h3, h4, h5, k0, k1, k2, k3, k4, k5, hB⟩ := h
        have hc : ∀ {x : Addr} {v : Value}, X.cell? x = some v → Y.cell? x = some v := fun hx => (hb.cell (block_lt_of_cell hx)).trans hx
        exact ⟨hc h0, hc h1, hc h2, hc h3, hc h4, hc h5, hc k0, hc k1, hc k2, hc k3, hc k4, hc k5, hB.out.trans (hb.mono hB.out.size)⟩)
      have HSD := HST.out _ _ hS0 (Below.refl W5.heap.size W5).drew
      have HEQ := Lib.hid (show ∀ X, (X.cell? ⟨D, 0, none⟩ = some (.string x.name) ∧ X.cell? ⟨D, 1, none⟩ = some (.int .i64 x.kind) ∧ X.cell? ⟨D, 2, none⟩ = some (.int .i64 x.num) ∧ X.cell? ⟨D, 3, none⟩ = some (.string x.text) ∧ X.cell? ⟨D, 4, none⟩ = some (.slice xi x.ints.length xci) ∧ X.cell? ⟨D, 5, none⟩ = some (.slice xo x.texts.length xct) ∧ X.cell? ⟨bk, o + q * 6, none⟩ = some (.string x.name) ∧ X.cell? ⟨bk, o + q * 6 + 1, none⟩ = some (.int .i64 x.kind) ∧ X.cell? ⟨bk, o + q * 6 + 2, none⟩ = some (.int .i64 x.num) ∧ X.cell? ⟨bk, o + q * 6 + 3, none⟩ = some (.string x.text) ∧ X.cell? ⟨bk, o + q * 6 + 4, none⟩ = some (.slice ai x.ints.length ci) ∧ X.cell? ⟨bk, o + q * 6 + 5, none⟩ = some (.slice ao x.texts.length ct) ∧ Hid (Below W5.heap.size W5 X)) → Calls Tryz.prog 17 #[.agg #[.string x.name, .int .i64 x.kind, .int .i64 x.num, .string x.text, .slice xi x.ints.length xci, .slice xo x.texts.length xct], .agg #[.string x.name, .int .i64 x.kind, .int .i64 x.num, .string x.text, .slice ai x.ints.length ci, .slice ao x.texts.length ct]] X fun e w' => e = .returned (.bool true) ∧ Below X.heap.size X w' from fun X h => by
        have hb := h.2.2.2.2.2.2.2.2.2.2.2.2.out
        have := REqual_any x x _ _ xi xci xo xct ai ci ao ct X (A5.out.below hb) (E5.out.att.below hb)
        rw [eqA_yes rfl] at this
        exact this)
      clear hS0
      refine wp_region_held_drew (S := fun w' => w'.cell? ⟨D, 0, none⟩ = some (.string x.name) ∧ w'.cell? ⟨D, 1, none⟩ = some (.int .i64 x.kind) ∧ w'.cell? ⟨D, 2, none⟩ = some (.int .i64 x.num) ∧ w'.cell? ⟨D, 3, none⟩ = some (.string x.text) ∧ w'.cell? ⟨D, 4, none⟩ = some (.slice xi x.ints.length xci) ∧ w'.cell? ⟨D, 5, none⟩ = some (.slice xo x.texts.length xct) ∧ w'.cell? ⟨bk, o + q * 6, none⟩ = some (.string x.name) ∧ w'.cell? ⟨bk, o + q * 6 + 1, none⟩ = some (.int .i64 x.kind) ∧ w'.cell? ⟨bk, o + q * 6 + 2, none⟩ = some (.int .i64 x.num) ∧ w'.cell? ⟨bk, o + q * 6 + 3, none⟩ = some (.string x.text) ∧ w'.cell? ⟨bk, o + q * 6 + 4, none⟩ = some (.slice ai x.ints.length ci) ∧ w'.cell? ⟨bk, o + q * 6 + 5, none⟩ = some (.slice ao x.texts.length ct) ∧ Hid (Below W5.heap.size W5 w')) (by kernel_rfl) HSD (fun hHeld => ?_)
      refine wpAnyH_take (i := 0) (v := .int .i64 0) rfl (by kernel_rfl) (by kernel_rfl) (by kernel_rfl) (fun _ _ _ h => h) (Or.inl ⟨by rfl, ?_⟩) hHeld ?_
      · intro w hSw
        try dsimp only at hSw
        go_simp
      simp only [Act.put, List.getElem_toArray, List.getElem_cons_zero, List.setIfInBounds_toArray, List.set_cons_succ, List.set_cons_zero]
      refine wpAnyH_take (i := 1) (v := .bool false) rfl (by kernel_rfl) (by kernel_rfl) (by kernel_rfl) (fun _ _ _ h => h) (Or.inl ⟨by rfl, ?_⟩) hHeld ?_
      · intro w hSw
        try dsimp only at hSw
        go_simp
      simp only [Act.put, List.getElem_toArray, List.getElem_cons_succ, List.getElem_cons_zero, List.setIfInBounds_toArray, List.set_cons_succ, List.set_cons_zero]
      refine wpAnyH_take (i := 2) (v := .bool false) rfl (by kernel_rfl) (by kernel_rfl) (by kernel_rfl) (fun _ _ _ h => h) (Or.inl ⟨by rfl, ?_⟩) hHeld ?_
      · intro w hSw
        try dsimp only at hSw
        go_simp
      simp only [Act.put, List.getElem_toArray, List.getElem_cons_succ, List.getElem_cons_zero, List.setIfInBounds_toArray, List.set_cons_succ, List.set_cons_zero]
      refine wpAnyH_take (i := 3) (v := .int .i64 0) rfl (by kernel_rfl) (by kernel_rfl) (by kernel_rfl) (fun _ _ _ h => h) (Or.inl ⟨by rfl, ?_⟩) hHeld ?_
      · intro w hSw
        try dsimp only at hSw
        go_simp
      simp only [Act.put, List.getElem_toArray, List.getElem_cons_succ, List.getElem_cons_zero, List.setIfInBounds_toArray, List.set_cons_succ, List.set_cons_zero]
      refine wpAnyH_take (i := 4) (v := .bool false) rfl (by kernel_rfl) (by kernel_rfl) (by kernel_rfl) (fun _ _ _ h => h) (Or.inl ⟨by rfl, ?_⟩) hHeld ?_
      · intro w hSw
        try dsimp only at hSw
        go_simp
      simp only [Act.put, List.getElem_toArray, List.getElem_cons_succ, List.getElem_cons_zero, List.setIfInBounds_toArray, List.set_cons_succ, List.set_cons_zero]
      refine wpAnyH_take (i := 5) (v := .bool false) rfl (by kernel_rfl) (by kernel_rfl) (by kernel_rfl) (fun _ _ _ h => h) (Or.inl ⟨by rfl, ?_⟩) hHeld ?_
      · intro w hSw
        try dsimp only at hSw
        go_simp
      simp only [Act.put, List.getElem_toArray, List.getElem_cons_succ, List.getElem_cons_zero, List.setIfInBounds_toArray, List.set_cons_succ, List.set_cons_zero]
      refine wpAnyH_take (i := 6) (v := .bool false) rfl (by kernel_rfl) (by kernel_rfl) (by kernel_rfl) (fun _ _ _ h => h) (Or.inl ⟨by rfl, ?_⟩) hHeld ?_
      · intro w hSw
        try dsimp only at hSw
        go_simp
      simp only [Act.put, List.getElem_toArray, List.getElem_cons_succ, List.getElem_cons_zero, List.setIfInBounds_toArray, List.set_cons_succ, List.set_cons_zero]
      refine wpAnyH_take (i := 7) (v := .agg #[.string x.name, .int .i64 x.kind, .int .i64 x.num, .string x.text, .slice xi x.ints.length xci, .slice xo x.texts.length xct]) rfl (by kernel_rfl) (by kernel_rfl) (by kernel_rfl) (fun _ _ _ h => h) (Or.inl ⟨by rfl, ?_⟩) hHeld ?_
      · intro w hSw
        try dsimp only at hSw
        go_simp
      simp only [Act.put, List.getElem_toArray, List.getElem_cons_succ, List.getElem_cons_zero, List.setIfInBounds_toArray, List.set_cons_succ, List.set_cons_zero]
      refine wpAnyH_take (i := 8) (v := .slice (some ⟨bk, o, none⟩) l.length c) rfl (by kernel_rfl) (by kernel_rfl) (by kernel_rfl) (fun _ _ _ h => h) (Or.inl ⟨by rfl, ?_⟩) hHeld ?_
      · intro w hSw
        try dsimp only at hSw
        go_simp
      simp only [Act.put, List.getElem_toArray, List.getElem_cons_succ, List.getElem_cons_zero, List.setIfInBounds_toArray, List.set_cons_succ, List.set_cons_zero]
      refine wpAnyH_take (i := 9) (v := .int .i64 (q : Int)) rfl (by kernel_rfl) (by kernel_rfl) (by kernel_rfl) (fun _ _ _ h => h) (Or.inl ⟨by rfl, ?_⟩) hHeld ?_
      · intro w hSw
        try dsimp only at hSw
        go_simp
      simp only [Act.put, List.getElem_toArray, List.getElem_cons_succ, List.getElem_cons_zero, List.setIfInBounds_toArray, List.set_cons_succ, List.set_cons_zero]
      refine wpAnyH_take (i := 10) (v := .pointer (some ⟨bk, o + q * 6, none⟩)) rfl (by kernel_rfl) (by kernel_rfl) (by kernel_rfl) (fun _ _ _ h => h) (Or.inl ⟨by rfl, ?_⟩) hHeld ?_
      · intro w hSw
        try dsimp only at hSw
        go_simp
      simp only [Act.put, List.getElem_toArray, List.getElem_cons_succ, List.getElem_cons_zero, List.setIfInBounds_toArray, List.set_cons_succ, List.set_cons_zero]
      refine wpAnyH_take (i := 11) (v := .agg #[.string x.name, .int .i64 x.kind, .int .i64 x.num, .string x.text, .slice ai x.ints.length ci, .slice ao x.texts.length ct]) rfl (by kernel_rfl) (by kernel_rfl) (by kernel_rfl) (fun _ _ _ h => h) (Or.inl ⟨by rfl, ?_⟩) hHeld ?_
      · intro w hSw
        try dsimp only at hSw
        go_simp
      simp only [Act.put, List.getElem_toArray, List.getElem_cons_succ, List.getElem_cons_zero, List.setIfInBounds_toArray, List.set_cons_succ, List.set_cons_zero]
      refine wpAnyH_ready (rs := [12]) (by kernel_rfl) (by simp) ?_
      refine AllReadyH.cons rfl (fun K hK => ?_) AllReadyH.nil
      go_simp
      go_at_call 17
      with_reducible refine (HEQ.out _ hHeld).mono ?_
      rintro e w' ⟨rfl, hb⟩
      try dsimp only
      refine hK.out _ _ (HST.out _ _ hHeld hb) (fun hHeld2 => ?_)
      clear hK K hb hHeld HEQ
      try simp only [Act.put, List.getElem_toArray, List.getElem_cons_succ, List.getElem_cons_zero, List.setIfInBounds_toArray, List.set_cons_succ, List.set_cons_zero]
      refine wpAnyH_take (i := 13) (v := .bool false) rfl (by kernel_rfl) (by kernel_rfl) (by kernel_rfl) (fun _ _ _ h => h) (Or.inl ⟨by rfl, ?_⟩) hHeld2 ?_
      · intro w hSw
        try dsimp only at hSw
        go_simp
      simp only [Act.put, List.getElem_toArray, List.getElem_cons_succ, List.getElem_cons_zero, List.setIfInBounds_toArray, List.set_cons_succ, List.set_cons_zero]
      refine wpAnyH_take (i := 14) (v := .bool false) rfl (by kernel_rfl) (by kernel_rfl) (by kernel_rfl) (fun _ _ _ h => h) (Or.inl ⟨by rfl, ?_⟩) hHeld2 ?_
      · intro w hSw
        try dsimp only at hSw
        go_simp
      simp only [Act.put, List.getElem_toArray, List.getElem_cons_succ, List.getElem_cons_zero, List.setIfInBounds_toArray, List.set_cons_succ, List.set_cons_zero]
      refine wpAnyH_done (by kernel_rfl) ?_ _
      have B6 := Lib.hid (B5.out.trans (hHeld2.2.2.2.2.2.2.2.2.2.2.2.2.out.mono B5.out.size))
      clear hHeld2 HSD HST T5 E5 A5 B5
      have hqb : (q : Int) ≤ 9223372036854775806 := by have := HQ.out; have := HN.out; omega
      go_wp2_with fail
      go_roundw
      case rel => exact ⟨rfl, q + 1, by have := HQ.out; omega, by go_num, B6.out⟩
      case measure => have := HQ.out; simp only [intOf]; omega
  case rest =>
  obtain ⟨rfl, hb⟩ := hcut
  obtain ⟨W3, rfl⟩ : ∃ W3, W3 = wc := ⟨_, rfl⟩
  have B3 := Lib.hid hb.out
  clear hb B2
  go_wp2_with fail
  refine (Parse_any s (by have := HSZ.out; omega) W3 (HE.out.below B3.out)).mono ?_
  rintro e w4 ⟨hb, hcase⟩
  have B4 := Lib.hid (B3.out.trans (hb.mono B3.out.size))
  have hcase2 : ∃ (L : List At) (po : Option Addr) (pc : Nat) (er : Int), e = .returned (.tuple #[.slice po L.length pc, .int .i64 er]) ∧ Hid ((er = 0 ∧ ListAt w4 po L ∧ Good s L) ∨ er = 70) := by
    rcases hcase with ⟨L, po, pc, rfl, hl, hc, hr, ht, hu⟩ | ⟨rfl, hno⟩
    · exact ⟨L, po, pc, 0, rfl, .inl ⟨rfl, hl, ⟨hr, list_wf hl, ht⟩⟩⟩
    · exact ⟨[], none, 0, 70, rfl, .inr rfl⟩
  clear hb hcase B3
  obtain ⟨L, po, pc, er, rfl, HC⟩ := hcase2
  go_upto_if 91 with fail
  go_cut [4] (fun x w' => x = .bool false ∧ Hid (Below w.heap.size w w'))
  case first =>
    rcases HC.out with ⟨he, hl, hg⟩ | he
    · subst he
      have HG := Lib.hid hg
      have LL := Lib.hid hl
      have HLN := Lib.hid (show L.length ≤ 9223372036854775807 by have := ((rightL_rise L).1 hg.1).1; omega)
      clear hl hg HC
      go_wp2_with fail
      refine (Print_any po L pc HLN.out w4 LL.out (HE.out.below B4.out)).mono ?_
      rintro e w5 ⟨rfl, hb⟩
      have B5 := Lib.hid (B4.out.trans (hb.mono B4.out.size))
      clear hb
      have hsl : s.size = (listL L).length := by rw [size_eq, ← HG.out.text]
      by_cases hn : 262144 < (listL L).length
      · rw [(pr_longB HG.out.1 hn).1, (pr_longB HG.out.1 hn).2]
        have hsi : ¬ (s.size : Int) ≤ 262144 := by omega
        clear hn hsl
        go_wp2_with fail
        go_meet
        exact ⟨rfl, B5.out⟩
      · rw [(pr_goodB HG.out.1 hn).1, (pr_goodB HG.out.1 hn).2, show (⟨(listL L).toArray⟩ : ByteArray) = s from bytes_inj HG.out.text]
        have hsi : (s.size : Int) ≤ 262144 := by omega
        have hse := self_beqB s
        clear hn hsl
        go_wp2_with fail
        go_meet
        exact ⟨rfl, B5.out⟩
    · subst he
      go_wp2_with fail
      go_meet
      exact ⟨rfl, B4.out⟩
  case rest =>
  obtain ⟨rfl, hb⟩ := hcut
  obtain ⟨W5, rfl⟩ : ∃ W5, W5 = wc := ⟨_, rfl⟩
  have B5 := Lib.hid hb.out
  clear hb B4 HC
  go_wp2_with fail
  refine (Read_u ⟨#[97]⟩ s HSZ.out W5 (HE.out.below B5.out)).mono ?_
  rintro e w6 ⟨x, xi, xci, xo, xct, er, rfl, hat, hf, hb⟩
  have hal := alloc_below w6 (.cells #[.string x.name, .int .i64 x.kind, .int .i64 x.num, .string x.text, .slice xi x.ints.length xci, .slice xo x.texts.length xct] 29)
  have T6 := Lib.hid (heap_alloc_new w6 (.cells #[.string x.name, .int .i64 x.kind, .int .i64 x.num, .string x.text, .slice xi x.ints.length xci, .slice xo x.texts.length xct] 29))
  have B6 := Lib.hid (B5.out.trans ((hb.trans (hal.mono hb.size)).mono B5.out.size))
  have A6 := Lib.hid (hat.below hal)
  have F6 := Lib.hid hf
  clear hb hal hat hf B5
  go_upto_if 119 with fail
  generalize w6.alloc (.cells #[.string x.name, .int .i64 x.kind, .int .i64 x.num, .string x.text, .slice xi x.ints.length xci, .slice xo x.texts.length xct] 29) = W6 at T6 B6 A6 ⊢
  generalize w6.heap.size = D at T6 ⊢
  go_cut [4] (fun x w' => x = .bool false ∧ Hid (Below w.heap.size w w'))
  case first =>
    rcases F6.out with ⟨he, -, -, hr, hv⟩ | ⟨he, -, -, -⟩ | ⟨-, hn, -⟩
    · subst he
      have HR := Lib.hid hr
      have HV := Lib.hid (show (⟨(valueL x).toArray⟩ : ByteArray) = s from bytes_inj hv)
      clear hr hv
      obtain ⟨c0, c1, c2, c3, c4, c5, cf⟩ := cells6 T6.out
      go_wp2_with fail
      refine (Value_any x _ xi xci xo xct W6 A6.out (HE.out.below B6.out)).mono ?_
      rintro e w7 ⟨rfl, hb⟩
      rw [(val_goodB HR.out A6.out.wf).1, (val_goodB HR.out A6.out.wf).2, HV.out]
      have B7 := Lib.hid (B6.out.trans (hb.mono B6.out.size))
      have hse := self_beqB s
      clear hb c0 c1 c2 c3 c4 c5 cf
      go_wp2_with fail
      go_meet
      exact ⟨rfl, B7.out⟩
    · subst he
      go_wp2_with fail
      go_meet
      exact ⟨rfl, B6.out⟩
    · exact absurd hn (by decide)
  case rest =>
  obtain ⟨rfl, hb⟩ := hcut
  have B7 := Lib.hid hb.out
  clear hb
  go_wp2_with fail
  refine (awake2_any _ (HE.out.below B7.out)).mono ?_
  rintro e wz ⟨rfl, hb⟩
  have BZ := Lib.hid (B7.out.trans (hb.mono B7.out.size))
  clear hb
  go_wp2_with fail
  go_ret
  exact ⟨rfl, BZ.out⟩
end Go.Proofs.YtiofnjnaleglgaaGreatDoor
