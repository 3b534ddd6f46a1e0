/-
  Texts of mine in one file: KAtRW.
-/
import Derived.Test.YtiofnjnaleglgaaGreatDoorNRD
import Derived.Test.YtiofnjnaleglgaaGreatDoorKAtEQ
import Derived.Test.YtiofnjnaleglgaaGreatDoorG40
/-
  The walk of the law 'AttrsReads'.
-/
namespace Go.Proofs.YtiofnjnaleglgaaGreatDoor
open Go.RowKit

/-- What 'Read' answers, in one form. -/
def ReadF (nm s : ByteArray) (x : At) (er : Int) : Prop :=
  (er = 0 ∧ isNameR nm.data.toList = true ∧ x.name = nm ∧ rightB x = true ∧ valueL x = s.data.toList) ∨
  (er = 70 ∧ isNameR nm.data.toList = true ∧ x = At.zero ∧ ∀ b : At, rightB b = true → b.Wf → b.name = nm → valueL b ≠ s.data.toList) ∨
  (er = 20 ∧ isNameR nm.data.toList = false ∧ x = At.zero)
theorem Read_u (nm s : ByteArray) (hs : s.size ≤ 1048576) (w : World) (hE : Env w) : Calls Tryz.prog 33 #[.string nm, .string s] w fun e w' => ∃ (x : At) (ai : Option Addr) (ci : Nat) (ao : Option Addr) (ct : Nat) (er : Int), e = .returned (.tuple #[.agg #[.string x.name, .int .i64 x.kind, .int .i64 x.num, .string x.text, .slice ai x.ints.length ci, .slice ao x.texts.length ct], .int .i64 er]) ∧
    AttAt w' x (.agg #[.string x.name, .int .i64 x.kind, .int .i64 x.num, .string x.text, .slice ai x.ints.length ci, .slice ao x.texts.length ct]) ai ci ao ct ∧ ReadF nm s x er ∧ Below w.heap.size w w' :=
  (Read_any nm s (by omega) w hE).mono fun e w' ⟨hb, hc⟩ => by
    rcases hc with ⟨hn, x, v, ai, ci, ao, ct, rfl, hat, hnm, hr, hv⟩ | ⟨hn, rfl, hno⟩ | ⟨hn, rfl⟩
    · obtain rfl := hat.val
      exact ⟨x, ai, ci, ao, ct, 0, rfl, hat, .inl ⟨rfl, hn, hnm, hr, hv⟩, hb⟩
    · exact ⟨At.zero, none, 0, none, 0, 70, rfl, AttAt.zero w', .inr (.inl ⟨rfl, hn, rfl, hno⟩), hb⟩
    · exact ⟨At.zero, none, 0, none, 0, 20, rfl, AttAt.zero w', .inr (.inr ⟨rfl, hn, rfl⟩), hb⟩
/-- What the reference's 'Read' answers, in one form. -/
def RReadF (nm s : ByteArray) (x : At) (ok : Bool) : Prop :=
  (ok = true ∧ x.Wf ∧ x.name = nm ∧ rightB x = true ∧ valueL x = s.data.toList) ∨ (ok = false ∧ ∀ b : At, rightB b = true → b.Wf → b.name = nm → valueL b ≠ s.data.toList)
theorem RRead_u (nm s : ByteArray) (hs : s.size ≤ 1048576) (w : World) : Calls Tryz.prog 34 #[.string nm, .string s] w fun e w' => ∃ (x : At) (ai : Option Addr) (ci : Nat) (ao : Option Addr) (ct : Nat) (ok : Bool), e = .returned (.tuple #[.agg #[.string x.name, .int .i64 x.kind, .int .i64 x.num, .string x.text, .slice ai x.ints.length ci, .slice ao x.texts.length ct], .bool ok]) ∧
    (ok = true → AttAt w' x (.agg #[.string x.name, .int .i64 x.kind, .int .i64 x.num, .string x.text, .slice ai x.ints.length ci, .slice ao x.texts.length ct]) ai ci ao ct) ∧ RReadF nm s x ok ∧ Below w.heap.size w w' :=
  (RRead_any nm s hs w).mono fun e w' ⟨hb, hc⟩ => by
    rcases hc with ⟨x, v, ai, ci, ao, ct, rfl, hat, hnm, hr, hv⟩ | ⟨hno, x, ai, ci, ao, ct, rfl⟩
    · obtain rfl := hat.val
      exact ⟨x, ai, ci, ao, ct, true, rfl, fun _ => hat, .inl ⟨rfl, hat.wf, hnm, hr, hv⟩, hb⟩
    · exact ⟨x, ai, ci, ao, ct, false, rfl, fun h => (by cases h), .inr ⟨rfl, hno⟩, hb⟩
theorem read_both {w : World} (hE : Env w) {nm s : ByteArray} {x y : At} {er : Int} {ok : Bool} (hn : isNameR nm.data.toList = true) (hw : x.Wf) (h1 : ReadF nm s x er) (h2 : RReadF nm s y ok) : (ok = true ∧ er = 0 ∧ x = y) ∨ (ok = false ∧ er = 70 ∧ x = At.zero) := by
  rcases h1 with ⟨he, _, hnm, hr, hv⟩ | ⟨he, _, hz, hno⟩ | ⟨_, hb, _⟩
  · rcases h2 with ⟨ho, hw2, hnm2, hr2, hv2⟩ | ⟨_, hno⟩
    · exact .inl ⟨ho, he, value_uniq hE hr2 hr hw2 hw (hnm.trans hnm2.symm) (hv.trans hv2.symm)⟩
    · exact absurd hv (hno x hr hw hnm)
  · rcases h2 with ⟨_, hw2, hnm2, hr2, hv2⟩ | ⟨ho, _⟩
    · exact absurd hv2 (hno y hr2 hw2 hnm2)
    · exact .inr ⟨ho, he, hz⟩
  · rw [hn] at hb; cases hb
theorem short2 {H : Type} {a s : ByteArray} (hk : Rows.uptoSmall H [.lit (.string a.data.toList), .lit (.string s.data.toList)] = true) : s.size ≤ 1048576 := by
  have h : Rows.uptoBulkAll [DataW.lit (H := H) (.string a.data.toList), DataW.lit (.string s.data.toList)] ≤ 1048576 := of_decide_eq_true hk
  simp only [Rows.uptoBulkAll, Rows.uptoBulk] at h
  rw [size_eq]
  omega
theorem named_right (nm : ByteArray) : rightB ⟨nm, 0, 0, ⟨#[]⟩, [], []⟩ = isNameR nm.data.toList := by
  unfold rightB kindB
  rw [if_pos rfl]
  show (isNameR nm.data.toList && true) = _
  rw [Bool.and_true]

set_option maxHeartbeats 8000000 in
set_option maxRecDepth 100000 in
theorem AttrsReads_any (nm s : ByteArray) (hs : s.size ≤ 1048576) (w : World) (hE : Env w) :
    Calls Tryz.prog 9 #[.string nm, .string s] w fun e w' => e = .returned (.bool true) ∧ Below w.heap.size w w' := by
  have HE := Lib.hid hE
  have HSZ := Lib.hid hs
  have B0 := Lib.hid (Below.refl w.heap.size w)
  clear hE hs
  obtain ⟨W0, hW0⟩ : ∃ W0, W0 = w := ⟨_, rfl⟩
  have BW : Hid (Below w.heap.size w W0) := by rw [hW0]; exact B0
  clear B0
  go_enter Tryz.func9, Tryz.ntmps9
  go_wp2_with fail
  rw [← hW0]
  clear hW0
  refine (Read_u nm s HSZ.out W0 (HE.out.below BW.out)).mono ?_
  rintro e V1 ⟨x1, ai1, ci1, ao1, ct1, er1, rfl, hat, hf, hb⟩
  have hal := alloc_below V1 (.cells #[.string x1.name, .int .i64 x1.kind, .int .i64 x1.num, .string x1.text, .slice ai1 x1.ints.length ci1, .slice ao1 x1.texts.length ct1] 29)
  have F1 := Lib.hid hf
  have T1 := Lib.hid (heap_alloc_new V1 (.cells #[.string x1.name, .int .i64 x1.kind, .int .i64 x1.num, .string x1.text, .slice ai1 x1.ints.length ci1, .slice ao1 x1.texts.length ct1] 29))
  have A1 := Lib.hid (hat.below hal)
  have BW' := Lib.hid (BW.out.trans ((hb.trans (hal.mono hb.size)).mono BW.out.size))
  clear BW  hat hf hb hal
  have BW := BW'
  clear BW' 
  go_upto_region 2 with fail
  generalize V1.alloc (.cells #[.string x1.name, .int .i64 x1.kind, .int .i64 x1.num, .string x1.text, .slice ai1 x1.ints.length ci1, .slice ao1 x1.texts.length ct1] 29) = W1 at BW T1 A1 ⊢
  generalize V1.heap.size = D1 at T1 ⊢
  go_wp2_with fail
  refine (Read_u ⟨#[97]⟩ s HSZ.out W1 (HE.out.below BW.out)).mono ?_
  rintro e V2 ⟨x2, ai2, ci2, ao2, ct2, er2, rfl, hat, hf, hb⟩
  have hal := alloc_below V2 (.cells #[.string x2.name, .int .i64 x2.kind, .int .i64 x2.num, .string x2.text, .slice ai2 x2.ints.length ci2, .slice ao2 x2.texts.length ct2] 29)
  have F2 := Lib.hid hf
  have T2 := Lib.hid (heap_alloc_new V2 (.cells #[.string x2.name, .int .i64 x2.kind, .int .i64 x2.num, .string x2.text, .slice ai2 x2.ints.length ci2, .slice ao2 x2.texts.length ct2] 29))
  have A2 := Lib.hid (hat.below hal)
  have BW' := Lib.hid (BW.out.trans ((hb.trans (hal.mono hb.size)).mono BW.out.size))
  have T1' := Lib.hid ((hal.block _ (lt_of_block ((hb.block _ (lt_of_block T1.out)).trans T1.out))).trans ((hb.block _ (lt_of_block T1.out)).trans T1.out))
  have A1' := Lib.hid ((A1.out.below hb).below hal)
  clear BW T1 A1 hat hf hb hal
  have BW := BW'
  have T1 := T1'
  have A1 := A1'
  clear BW' T1' A1'
  go_upto_region 3 with fail
  generalize V2.alloc (.cells #[.string x2.name, .int .i64 x2.kind, .int .i64 x2.num, .string x2.text, .slice ai2 x2.ints.length ci2, .slice ao2 x2.texts.length ct2] 29) = W2 at BW T1 A1 T2 A2 ⊢
  generalize V2.heap.size = D2 at T2 ⊢
  go_wp2_with fail
  refine (RRead_u nm s HSZ.out W2).mono ?_
  rintro e V3 ⟨x3, ai3, ci3, ao3, ct3, ok3, rfl, hat, hf, hb⟩
  have hal := alloc_below V3 (.cells #[.string x3.name, .int .i64 x3.kind, .int .i64 x3.num, .string x3.text, .slice ai3 x3.ints.length ci3, .slice ao3 x3.texts.length ct3] 29)
  have F3 := Lib.hid hf
  have T3 := Lib.hid (heap_alloc_new V3 (.cells #[.string x3.name, .int .i64 x3.kind, .int .i64 x3.num, .string x3.text, .slice ai3 x3.ints.length ci3, .slice ao3 x3.texts.length ct3] 29))
  have A3 := Lib.hid (fun h => (hat h).below hal)
  have BW' := Lib.hid (BW.out.trans ((hb.trans (hal.mono hb.size)).mono BW.out.size))
  have T1' := Lib.hid ((hal.block _ (lt_of_block ((hb.block _ (lt_of_block T1.out)).trans T1.out))).trans ((hb.block _ (lt_of_block T1.out)).trans T1.out))
  have A1' := Lib.hid ((A1.out.below hb).below hal)
  have T2' := Lib.hid ((hal.block _ (lt_of_block ((hb.block _ (lt_of_block T2.out)).trans T2.out))).trans ((hb.block _ (lt_of_block T2.out)).trans T2.out))
  have A2' := Lib.hid ((A2.out.below hb).below hal)
  clear BW T1 A1 T2 A2 hat hf hb hal
  have BW := BW'
  have T1 := T1'
  have A1 := A1'
  have T2 := T2'
  have A2 := A2'
  clear BW' T1' A1' T2' A2'
  go_upto_region 4 with fail
  generalize V3.alloc (.cells #[.string x3.name, .int .i64 x3.kind, .int .i64 x3.num, .string x3.text, .slice ai3 x3.ints.length ci3, .slice ao3 x3.texts.length ct3] 29) = W3 at BW T1 A1 T2 A2 T3 A3 ⊢
  generalize V3.heap.size = D3 at T3 ⊢
  go_wp2_with fail
  refine (RRead_u ⟨#[97]⟩ s HSZ.out W3).mono ?_
  rintro e V4 ⟨x4, ai4, ci4, ao4, ct4, ok4, rfl, hat, hf, hb⟩
  have hal := alloc_below V4 (.cells #[.string x4.name, .int .i64 x4.kind, .int .i64 x4.num, .string x4.text, .slice ai4 x4.ints.length ci4, .slice ao4 x4.texts.length ct4] 29)
  have F4 := Lib.hid hf
  have T4 := Lib.hid (heap_alloc_new V4 (.cells #[.string x4.name, .int .i64 x4.kind, .int .i64 x4.num, .string x4.text, .slice ai4 x4.ints.length ci4, .slice ao4 x4.texts.length ct4] 29))
  have A4 := Lib.hid (fun h => (hat h).below hal)
  have BW' := Lib.hid (BW.out.trans ((hb.trans (hal.mono hb.size)).mono BW.out.size))
  have T1' := Lib.hid ((hal.block _ (lt_of_block ((hb.block _ (lt_of_block T1.out)).trans T1.out))).trans ((hb.block _ (lt_of_block T1.out)).trans T1.out))
  have A1' := Lib.hid ((A1.out.below hb).below hal)
  have T2' := Lib.hid ((hal.block _ (lt_of_block ((hb.block _ (lt_of_block T2.out)).trans T2.out))).trans ((hb.block _ (lt_of_block T2.out)).trans T2.out))
  have A2' := Lib.hid ((A2.out.below hb).below hal)
  have T3' := Lib.hid ((hal.block _ (lt_of_block ((hb.block _ (lt_of_block T3.out)).trans T3.out))).trans ((hb.block _ (lt_of_block T3.out)).trans T3.out))
  have A3' := Lib.hid (fun h => ((A3.out h).below hb).below hal)
  clear BW T1 A1 T2 A2 T3 A3 hat hf hb hal
  have BW := BW'
  have T1 := T1'
  have A1 := A1'
  have T2 := T2'
  have A2 := A2'
  have T3 := T3'
  have A3 := A3'
  clear BW' T1' A1' T2' A2' T3' A3'
  go_upto_region 5 with fail
  generalize V4.alloc (.cells #[.string x4.name, .int .i64 x4.kind, .int .i64 x4.num, .string x4.text, .slice ai4 x4.ints.length ci4, .slice ao4 x4.texts.length ct4] 29) = W4 at BW T1 A1 T2 A2 T3 A3 T4 A4 ⊢
  generalize V4.heap.size = D4 at T4 ⊢
  have HB2 := Lib.hid (read_both HE.out (by decide : isNameR [97] = true) A2.out.wf F2.out F4.out)
  have HR1 := Lib.hid (fun h => read_both HE.out (nm := nm) h A1.out.wf F1.out F3.out)
  have HR0 := Lib.hid (show isNameR nm.data.toList = false → er1 = 20 ∧ x1 = At.zero from fun h => by
    rcases F1.out with ⟨_, hn, _⟩ | ⟨_, hn, _⟩ | ⟨he, _, hz⟩
    · rw [h] at hn; cases hn
    · rw [h] at hn; cases hn
    · exact ⟨he, hz⟩)
  clear F1 F2 F3 F4
  go_upto_if 35 with fail
  go_cut [4] (fun x w' => x = .bool false ∧ Hid (Below W4.heap.size W4 w'))
  case first =>
    rcases HB2.out with ⟨hok, her, hx⟩ | ⟨hok, her, hx⟩
    · subst hok her hx
      have A4' := Lib.hid (A4.out rfl)
      have HQ := Lib.hid (eqA_yes (rfl : x2 = x2))
      obtain ⟨c0, c1, c2, c3, c4, c5, cf⟩ := cells6 T2.out
      obtain ⟨d0, d1, d2, d3, d4, d5, df⟩ := cells6 T4.out
      go_wp2_with fail
      refine (REqual_any x2 x2 _ _ ai2 ci2 ao2 ct2 ai4 ci4 ao4 ct4 W4 A2.out A4'.out).mono ?_
      rintro e w9 ⟨rfl, hb⟩
      rw [HQ.out]
      have BX := Lib.hid hb
      clear hb
      go_wp2_with fail
      go_meet
      exact ⟨rfl, BX.out⟩
    · subst hok her hx
      have HQ := Lib.hid (eqA_yes (rfl : At.zero = At.zero))
      obtain ⟨c0, c1, c2, c3, c4, c5, cf⟩ := cells6 T2.out
      go_wp2_with fail
      refine (REqual_any At.zero At.zero _ _ ai2 ci2 ao2 ct2 none 0 none 0 W4 A2.out (AttAt.zero W4)).mono ?_
      rintro e w9 ⟨rfl, hb⟩
      rw [HQ.out]
      have BX := Lib.hid hb
      clear hb
      go_wp2_with fail
      go_meet
      exact ⟨rfl, BX.out⟩
  case rest =>
  obtain ⟨rfl, hb⟩ := hcut
  obtain ⟨W5, rfl⟩ : ∃ W5, W5 = wc := ⟨_, rfl⟩
  have BW5 := Lib.hid (BW.out.trans (hb.out.mono BW.out.size))
  have U1 := Lib.hid ((hb.out.block _ (lt_of_block T1.out)).trans T1.out)
  have U3 := Lib.hid ((hb.out.block _ (lt_of_block T3.out)).trans T3.out)
  have X1 := Lib.hid (A1.out.below hb.out)
  have X3 := Lib.hid (fun h => (A3.out h).below hb.out)
  clear hb BW T1 T2 T3 T4 A1 A2 A3 A4 HB2
  go_wp2_with fail
  refine (RRight_any ⟨nm, 0, 0, ⟨#[]⟩, [], []⟩ _ none 0 none 0 ⟨Nat.zero_le _, fun x hx => (by cases hx)⟩ W5 ⟨rfl, .inl rfl, .inl rfl, Nat.le_refl _, Nat.le_refl _, ⟨⟨(by decide : (-9223372036854775808 : Int) ≤ 0), (by decide : (0 : Int) ≤ 9223372036854775807)⟩, ⟨(by decide : (-9223372036854775808 : Int) ≤ 0), (by decide : (0 : Int) ≤ 9223372036854775807)⟩, fun z hz => (by cases hz), Nat.zero_le _, Nat.zero_le _⟩⟩).mono ?_
  rintro e W6 ⟨rfl, hb⟩
  rw [named_right]
  have BW6 := Lib.hid (BW5.out.trans (hb.mono BW5.out.size))
  have V1 := Lib.hid ((hb.block _ (lt_of_block U1.out)).trans U1.out)
  have V3 := Lib.hid ((hb.block _ (lt_of_block U3.out)).trans U3.out)
  have Y1 := Lib.hid (X1.out.below hb)
  have Y3 := Lib.hid (fun h => (X3.out h).below hb)
  clear hb BW5 U1 U3 X1 X3
  cases hn : isNameR nm.data.toList with
  | false =>
    obtain ⟨her, hx⟩ := HR0.out hn
    subst her hx
    clear hn HR0 HR1
    have HQ := Lib.hid (eqA_yes (rfl : At.zero = At.zero))
    obtain ⟨c0, c1, c2, c3, c4, c5, cf⟩ := cells6 V1.out
    go_wp2_with fail
    refine (REqual_any At.zero At.zero _ _ ai1 ci1 ao1 ct1 none 0 none 0 W6 Y1.out (AttAt.zero W6)).mono ?_
    rintro e w9 ⟨rfl, hb⟩
    rw [HQ.out]
    have BX := Lib.hid (BW6.out.trans (hb.mono BW6.out.size))
    clear hb
    go_wp2_with fail
    refine (awake2_any _ (HE.out.below BX.out)).mono ?_
    rintro e wz ⟨rfl, hb⟩
    have BZ := Lib.hid (BX.out.trans (hb.mono BX.out.size))
    clear hb
    go_wp2_with fail
    go_ret
    exact ⟨rfl, BZ.out⟩
  | true =>
    rcases HR1.out hn with ⟨hok, her, hx⟩ | ⟨hok, her, hx⟩
    · subst hok her hx
      clear hn HR0 HR1
      have Y3' := Lib.hid (Y3.out rfl)
      have HQ := Lib.hid (eqA_yes (rfl : x1 = x1))
      obtain ⟨c0, c1, c2, c3, c4, c5, cf⟩ := cells6 V1.out
      obtain ⟨d0, d1, d2, d3, d4, d5, df⟩ := cells6 V3.out
      go_wp2_with fail
      refine (REqual_any x1 x1 _ _ ai1 ci1 ao1 ct1 ai3 ci3 ao3 ct3 W6 Y1.out Y3'.out).mono ?_
      rintro e w9 ⟨rfl, hb⟩
      rw [HQ.out]
      have BX := Lib.hid (BW6.out.trans (hb.mono BW6.out.size))
      clear hb
      go_wp2_with fail
      refine (awake2_any _ (HE.out.below BX.out)).mono ?_
      rintro e wz ⟨rfl, hb⟩
      have BZ := Lib.hid (BX.out.trans (hb.mono BX.out.size))
      clear hb
      go_wp2_with fail
      go_ret
      exact ⟨rfl, BZ.out⟩
    · subst hok her hx
      clear hn HR0 HR1
      have HQ := Lib.hid (eqA_yes (rfl : At.zero = At.zero))
      obtain ⟨c0, c1, c2, c3, c4, c5, cf⟩ := cells6 V1.out
      go_wp2_with fail
      refine (REqual_any At.zero At.zero _ _ ai1 ci1 ao1 ct1 none 0 none 0 W6 Y1.out (AttAt.zero W6)).mono ?_
      rintro e w9 ⟨rfl, hb⟩
      rw [HQ.out]
      have BX := Lib.hid (BW6.out.trans (hb.mono BW6.out.size))
      clear hb
      go_wp2_with fail
      refine (awake2_any _ (HE.out.below BX.out)).mono ?_
      rintro e wz ⟨rfl, hb⟩
      have BZ := Lib.hid (BX.out.trans (hb.mono BX.out.size))
      clear hb
      go_wp2_with fail
      go_ret
      exact ⟨rfl, BZ.out⟩
end Go.Proofs.YtiofnjnaleglgaaGreatDoor
