/-
  The walk of the law 'AttrsSets'.
-/
import Derived.Test.YtiofnjnaleglgaaGreatDoorKAtMY
import Derived.Test.YtiofnjnaleglgaaGreatDoorHAtRL
import Derived.Test.YtiofnjnaleglgaaGreatDoorG40
import Derived.Test.YtiofnjnaleglgaaGreatDoorG30
import Derived.Test.YtiofnjnaleglgaaGreatDoorG28
import Derived.Deep.Cut
import Derived.Deep.DeepCutAuto
namespace Go.Proofs.YtiofnjnaleglgaaGreatDoor
open Go.RowKit

theorem right_one (a : At) : rightL [a] = rightB a := by
  cases h : rightB a with
  | true => exact (rightL_rise _).2 ⟨by simp, fun x hx => by rw [List.mem_singleton.1 hx]; exact h, ⟨fun _ h => (by cases h), trivial⟩⟩
  | false =>
    cases h1 : rightL [a] with
    | false => rfl
    | true => rw [rightL_all h1 a (List.mem_singleton.2 rfl)] at h; cases h
theorem mergeOut_len (l m : List At) : (mergeOut l m).length ≤ 100 := by
  by_cases h : mergeErr l m = 0
  · rw [mergeOut_ok h]
    cases hg : (rightL l && rightL m) with
    | false => rw [mergeErr_bad hg] at h; exact absurd h (by decide)
    | true =>
      refine Nat.le_of_not_lt fun hn => ?_
      rw [mergeErr_big hg hn] at h
      exact absurd h (by decide)
  · rw [mergeOut_no h]; exact Nat.zero_le _
theorem wp_append_one_n {ops : Array Oper} {rest : List Oper} {o : Oper} {a : Act} {Q : Exit → Act → World → Prop} {w : World} (hgd : o.guard = none) (s x : Operand)
    (ho : o.op = .call { callee := .builtin .append, args := #[s, x], argTypes := #[22, 22] }) {B : Nat} {ao : Option Addr} {c n : Nat} {es : List El} {e : El} (hn : n = es.length)
    (h : w.ownsRow B 29 6 (.slice ao es.length c) es.length (es.flatMap El.cells)) (hB : B ≤ w.heap.size) (h3 : es.length ≤ 2000) (hs : a.eval s = .slice ao n c) (hx : a.eval x = .slice (some ⟨w.heap.size, 0, none⟩) 1 1)
    (hk : ∀ ao' c' w', w'.ownsRow B 29 6 (.slice ao' (es ++ [e]).length c') (es ++ [e]).length ((es ++ [e]).flatMap El.cells) → Below B w w' → wpList Tryz.prog ops Q rest (a.put o.dst (.slice ao' (n + 1) c')) w') :
    wpList Tryz.prog ops Q (o :: rest) a (w.alloc (.cells #[.string e.a.name, .int .i64 e.a.kind, .int .i64 e.a.num, .string e.a.text, .slice e.ai e.a.ints.length e.ci, .slice e.ao e.a.texts.length e.ct] 29)) := by
  subst hn
  exact wp_append_one hgd s x ho h hB h3 hs hx hk
structure ManyS (w : World) (ao : Option Addr) (c n : Nat) (W : World) : Prop where
  own : W.ownsRow w.heap.size 29 6 (.slice ao n c) n ((manyE n).flatMap El.cells)
  below : Below w.heap.size w W
theorem many_ok (w : World) (n : Nat) : ∀ e ∈ manyE n, ElOK w e := fun e he => by
  unfold manyE at he
  obtain ⟨i, _, rfl⟩ := List.mem_map.1 he
  exact ⟨.inl rfl, .inl rfl, Nat.le_refl _, Nat.le_refl _, many_wf i⟩
theorem ManyS.list {w : World} {ao : Option Addr} {c n : Nat} {W : World} (h : ManyS w ao c n W) : ListAt W ao (manyL n) := by
  rw [← manyE_map]
  exact (list_of_own h.own (manyE_len n).symm (many_ok W n)).1
theorem ManyS.more {w : World} {ao ao' : Option Addr} {c c' n : Nat} {W W' : World} {e : El} (h : ManyS w ao c n W) (he : (⟨manyA n, none, 0, none, 0⟩ : El) = e) (ho : W'.ownsRow w.heap.size 29 6 (.slice ao' (manyE n ++ [e]).length c') (manyE n ++ [e]).length ((manyE n ++ [e]).flatMap El.cells)) (hb : Below w.heap.size W W') : ManyS w ao' c' (n + 1) W' := by
  subst he
  rw [← manyE_snoc, manyE_len] at ho
  exact ⟨ho, h.below.trans hb⟩
theorem name_parts (n : Nat) (h : n < 100) : ∃ x y : UInt8, nmN n = ⟨#[97, x, y]⟩ ∧ (Utf8.encode (IntKind.i32.wrap (97 + (n : Int) / 10)) = ⟨#[x]⟩ ∧ Utf8.encode (97 + (n : Int) / 10) = ⟨#[x]⟩) ∧ (Utf8.encode (IntKind.i32.wrap (97 + (n : Int) % 10)) = ⟨#[y]⟩ ∧ Utf8.encode (97 + (n : Int) % 10) = ⟨#[y]⟩) := by
  refine ⟨UInt8.ofNat (97 + n / 10), UInt8.ofNat (97 + n % 10), rfl, ?_⟩
  rw [show 97 + (n : Int) / 10 = ((97 + n / 10 : Nat) : Int) by omega, show 97 + (n : Int) % 10 = ((97 + n % 10 : Nat) : Int) by omega, wrap_i32 _ (by omega), wrap_i32 _ (by omega)]
  exact ⟨⟨enc_byte _ (by omega), enc_byte _ (by omega)⟩, enc_byte _ (by omega), enc_byte _ (by omega)⟩


set_option maxHeartbeats 4000000 in
set_option maxRecDepth 100000 in
theorem AttrsSets_any (so : Option Addr) (l : List At) (c : Nat) (a : At) (v : Value) (ai : Option Addr) (ci : Nat) (ao : Option Addr) (ct : Nat) (hc : l.length ≤ c) (hc63 : c ≤ 9223372036854775807) (hs : ∀ x ∈ l, Short x) (hsa : Short a) (w : World) (hl : ListAt w so l) (ha : AttAt w a v ai ci ao ct) (hE : Env w) :
    Calls Tryz.prog 4 #[.slice so l.length c, v] w fun e w' => e = .returned (.bool true) ∧ Below w.heap.size w w' := by
  have HE := Lib.hid hE
  have HA := Lib.hid ha
  have HS := Lib.hid hs
  have HSA := Lib.hid hsa
  have HN := Lib.hid (show l.length ≤ 9223372036854775807 by omega)
  have hv := ha.val
  clear hE ha hs hsa hc hc63
  subst hv
  have B0 := Lib.hid (alloc_below w (.cells #[.string a.name, .int .i64 a.kind, .int .i64 a.num, .string a.text, .slice ai a.ints.length ci, .slice ao a.texts.length ct] 29))
  have T0 := Lib.hid (heap_alloc_new w (.cells #[.string a.name, .int .i64 a.kind, .int .i64 a.num, .string a.text, .slice ai a.ints.length ci, .slice ao a.texts.length ct] 29))
  have L0 := Lib.hid (hl.below (alloc_below w (.cells #[.string a.name, .int .i64 a.kind, .int .i64 a.num, .string a.text, .slice ai a.ints.length ci, .slice ao a.texts.length ct] 29)))
  have A0 := Lib.hid (HA.out.below (alloc_below w (.cells #[.string a.name, .int .i64 a.kind, .int .i64 a.num, .string a.text, .slice ai a.ints.length ci, .slice ao a.texts.length ct] 29)))
  clear hl HA
  go_enter Tryz.func4, Tryz.ntmps4
  go_upto_region 1 with fail
  generalize w.alloc (.cells #[.string a.name, .int .i64 a.kind, .int .i64 a.num, .string a.text, .slice ai a.ints.length ci, .slice ao a.texts.length ct] 29) = w0 at B0 T0 L0 A0 ⊢
  obtain ⟨D, hD⟩ : ∃ D, D = w.heap.size := ⟨_, rfl⟩
  rw [← hD] at T0 ⊢
  clear hD
  obtain ⟨y0, y1, y2, y3, y4, y5, yf⟩ := cells6 T0.out
  go_wp2_with fail
  refine (Set_any so l c a _ ai ci ao ct HN.out w0 L0.out A0.out (HE.out.below B0.out)).mono ?_
  rintro e w2 ⟨so2, c2, rfl, hc2, hl2, hb⟩
  have B2 := Lib.hid (B0.out.trans (hb.mono B0.out.size))
  have L2 := Lib.hid (L0.out.below hb)
  have A2 := Lib.hid (A0.out.below hb)
  have T2 := Lib.hid ((hb.block _ (lt_of_block T0.out)).trans T0.out)
  have X2 := Lib.hid hl2
  clear hc2 hl2 hb B0 L0 A0 T0 y0 y1 y2 y3 y4 y5 yf
  obtain ⟨mo, hmo⟩ : ∃ mo, mo = mergeOut l [a] := ⟨_, rfl⟩
  obtain ⟨me, hme⟩ : ∃ me, me = mergeErr l [a] := ⟨_, rfl⟩
  rw [← hmo] at X2 ⊢
  rw [← hme]
  have HMO := Lib.hid hmo
  have HME := Lib.hid hme
  clear hmo hme
  go_upto_region 4 with fail
  go_cut [30] (fun x w' => x = .bool (!(rightL l && rightB a)) ∧ Hid (Below w2.heap.size w2 w'))
  case first =>
    go_wp2_with fail
    refine (RRightList_any so l c HN.out HS.out w2 L2.out).mono ?_
    rintro e w3 ⟨rfl, hb⟩
    have HB := Lib.hid hb
    clear hb
    have T3 := Lib.hid ((HB.out.block _ (lt_of_block T2.out)).trans T2.out)
    obtain ⟨y0, y1, y2, y3, y4, y5, yf⟩ := cells6 T3.out
    cases hr : rightL l with
    | false =>
      go_wp2_with fail
      go_meet
      exact ⟨by rw [hr]; rfl, HB.out⟩
    | true =>
      go_wp2_with fail
      refine (RRight_any a _ ai ci ao ct HSA.out w3 (A2.out.below HB.out)).mono ?_
      rintro e w4 ⟨rfl, hb⟩
      have HB4 := Lib.hid (HB.out.trans (hb.mono HB.out.size))
      clear hb
      go_wp2_with fail
      go_meet
      exact ⟨by rw [hr, Bool.true_and], HB4.out⟩
  case rest =>
  obtain ⟨rfl, hb⟩ := hcut
  have B3 := Lib.hid (B2.out.trans (hb.out.mono B2.out.size))
  have L3 := Lib.hid (L2.out.below hb.out)
  have A3 := Lib.hid (A2.out.below hb.out)
  have X3 := Lib.hid (X2.out.below hb.out)
  have T3 := Lib.hid ((hb.out.block _ (lt_of_block T2.out)).trans T2.out)
  clear hb B2 L2 A2 X2 T2
  obtain ⟨w3, rfl⟩ : ∃ w3, w3 = wc := ⟨_, rfl⟩
  obtain ⟨y0, y1, y2, y3, y4, y5, yf⟩ := cells6 T3.out
  go_upto_if 30 with fail
  go_cut [7, 8] (fun x y w' => x = .int .i64 me ∧ ∃ yo yc, y = .slice yo mo.length yc ∧ Hid (ListAt w' yo mo ∧ Below w3.heap.size w3 w'))
  case first =>
    cases hg : (rightL l && rightB a) with
    | false =>
      have h1 : mergeErr l [a] = 20 := mergeErr_bad (by rw [right_one]; exact hg)
      have h2 : mergeOut l [a] = [] := mergeOut_no (by rw [h1]; decide)
      have H1 := Lib.hid (HME.out.trans h1)
      have H2 := Lib.hid (HMO.out.trans h2)
      clear h1 h2
      go_wp2_with fail
      go_meet
      exact ⟨by rw [H1.out], none, 0, by rw [H2.out]; rfl, .inl H2.out, Below.refl _ _⟩
    | true =>
      obtain ⟨hr, hra⟩ : rightL l = true ∧ rightB a = true := by rw [Bool.and_eq_true] at hg; exact hg
      have hl100 : l.length ≤ 100 := ((rightL_rise l).1 hr).1
      have HF := Lib.hid (setR_merge a l ((rightL_rise l).1 hr).2.2)
      have HB := Lib.hid (show (rightL l && rightL [a]) = true by rw [right_one]; exact hg)
      go_wp2_with fail
      refine (RSet_any so l c a _ ai ci ao ct (by omega) w3 L3.out A3.out).mono ?_
      rintro e w4 ⟨yo, yc, rfl, _, hy, hb⟩
      rw [HF.out] at hy ⊢
      have Y4 := Lib.hid hy
      have B4 := Lib.hid hb
      clear hb hy hr hra hg
      by_cases hn : 100 < (mergeL l [a]).length
      · have hni : (100 : Int) < ((mergeL l [a]).length : Int) := by omega
        have h1 : mergeErr l [a] = 2 := mergeErr_big HB.out hn
        have h2 : mergeOut l [a] = [] := mergeOut_no (by rw [h1]; decide)
        have H1 := Lib.hid (HME.out.trans h1)
        have H2 := Lib.hid (HMO.out.trans h2)
        clear h1 h2 hn
        generalize (mergeL l [a]).length = ml at hni ⊢
        go_wp2_with fail
        go_meet
        exact ⟨by rw [H1.out], none, 0, by rw [H2.out]; rfl, .inl H2.out, B4.out⟩
      · have hni : ¬ (100 : Int) < ((mergeL l [a]).length : Int) := by omega
        have h1 : mergeErr l [a] = 0 := mergeErr_ok HB.out hn
        have h2 : mergeOut l [a] = mergeL l [a] := mergeOut_ok h1
        have H1 := Lib.hid (HME.out.trans h1)
        have H2 := Lib.hid (HMO.out.trans h2)
        clear h1 h2 hn
        generalize mergeL l [a] = ml at hni H2 Y4 ⊢
        go_wp2_with fail
        go_meet
        exact ⟨by rw [H1.out], yo, yc, by rw [H2.out], by rw [H2.out]; exact Y4.out, B4.out⟩
  case rest =>
  obtain ⟨rfl, yo, yc, rfl, hb⟩ := hcut
  have HML := Lib.hid (show mo.length ≤ 1000000 by have := mergeOut_len l [a]; rw [HMO.out]; omega)
  have B5 := Lib.hid (B3.out.trans (hb.out.2.mono B3.out.size))
  have X5 := Lib.hid (X3.out.below hb.out.2)
  have Y5 := Lib.hid hb.out.1
  clear hb B3 L3 A3 X3 T3 y0 y1 y2 y3 y4 y5 yf HSA HS HN
  obtain ⟨w5, rfl⟩ : ∃ w5, w5 = wc := ⟨_, rfl⟩
  go_wp2_with fail
  refine (equalLists_same so2 yo mo c2 yc (by exact HML.out) w5 X5.out Y5.out).mono ?_
  rintro e w6 ⟨rfl, hb⟩
  have B6 := Lib.hid (B5.out.trans (hb.mono B5.out.size))
  clear hb B5 X5 Y5 HML HMO HME
  go_wp2_with fail
  go_loopw [9, 10] (fun o i wr => ∃ (xo : Option Addr) (xc n : Nat), n ≤ 100 ∧ i = .int .i64 n ∧ o = .slice xo n xc ∧ Hid (ManyS w6 xo xc n wr)) (fun _ i _ => 100 - (intOf i).toNat)
  case atStart => exact ⟨none, 0, 0, by decide, rfl, rfl, World.ownsRow_nil _ _ _ _, Below.refl _ _⟩
  case round =>
    obtain ⟨xo, xc, n, hm, rfl, rfl, HQ⟩ := hrel
    by_cases hlt : n < 100
    · have hli : (n : Int) < 100 := by omega
      obtain ⟨x, y, hnm, ⟨ex, ex'⟩, ey, ey'⟩ := name_parts n hlt
      have HNM := Lib.hid hnm
      have ha := fun w => add_bytes ⟨#[97]⟩ ⟨#[x]⟩ ⟨#[97, x]⟩ rfl (by decide) (Nat.le_of_ble_eq_true rfl) w
      have hb := fun w => add_bytes ⟨#[97, x]⟩ ⟨#[y]⟩ ⟨#[97, x, y]⟩ rfl (Nat.le_of_ble_eq_true rfl) (Nat.le_of_ble_eq_true rfl) w
      clear hnm
      have OWN := Lib.hid (show wr.ownsRow w6.heap.size 29 6 (.slice xo (manyE n).length xc) (manyE n).length ((manyE n).flatMap El.cells) by rw [manyE_len]; exact HQ.out.own)
      have HSZ := Lib.hid HQ.out.below.size
      have H3 := Lib.hid (show (manyE n).length ≤ 2000 by rw [manyE_len]; omega)
      have HNE := Lib.hid (manyE_len n).symm
      go_wp2_with (at_builtin; refine wp_append_one_n (e := ⟨⟨⟨#[97, x, y]⟩, 0, 0, ⟨#[]⟩, [], []⟩, none, 0, none, 0⟩) rfl _ _ rfl HNE.out OWN.out HSZ.out H3.out rfl rfl ?_; intro xo3 rc3 w7 hown hbel; have OWN3 := Lib.hid hown; have HBEL := Lib.hid hbel; clear hown hbel)
      go_roundw
      case rel => exact ⟨xo3, rc3, n + 1, by omega, by go_num, rfl, HQ.out.more (by unfold manyA; rw [HNM.out]) OWN3.out HBEL.out⟩
      case measure => simp only [intOf]; omega
    · obtain rfl : n = 100 := by omega
      have ML := Lib.hid HQ.out.list
      have B7 := Lib.hid (B6.out.trans (HQ.out.below.mono B6.out.size))
      clear HQ B6
      have H1 := Lib.hid (Set_any xo (manyL 100) xc bA (.agg #[.string ⟨#[98]⟩, .int .i64 0, .int .i64 0, .string ⟨#[]⟩, .slice none 0 0, .slice none 0 0]) none 0 none 0 (by rw [manyL_len]; decide) wr ML.out ⟨rfl, .inl rfl, .inl rfl, Nat.le_refl _, Nat.le_refl _, bA_wf⟩ (HE.out.below B7.out))
      rw [manyL_len] at H1
      go_wp2_with fail
      refine H1.out.mono ?_
      rintro e w8 ⟨so8, c8, rfl, _, _, hb⟩
      rw [many_b]
      generalize (mergeOut (manyL 100) [bA]).length = k8
      have B8 := Lib.hid (B7.out.trans (hb.mono B7.out.size))
      have M8 := Lib.hid (ML.out.below hb)
      clear hb ML B7 H1
      have H1 := Lib.hid (Set_any xo (manyL 100) xc aaaA (.agg #[.string ⟨#[97, 97, 97]⟩, .int .i64 0, .int .i64 1, .string ⟨#[]⟩, .slice none 0 0, .slice none 0 0]) none 0 none 0 (by rw [manyL_len]; decide) w8 M8.out ⟨rfl, .inl rfl, .inl rfl, Nat.le_refl _, Nat.le_refl _, aaa_wf⟩ (HE.out.below B8.out))
      rw [manyL_len] at H1
      go_wp2_with fail
      refine H1.out.mono ?_
      rintro e w9 ⟨so9, c9, rfl, _, hl9, hb⟩
      have B9 := Lib.hid (B8.out.trans (hb.mono B8.out.size))
      have M9 := Lib.hid (M8.out.below hb)
      rw [many_aaa.1]
      have hl9' : (mergeOut (manyL 100) [aaaA]).length = 100 := by rw [many_aaa.2, List.length_cons, List.length_tail, manyL_len]
      have hn9 : nth (mergeOut (manyL 100) [aaaA]) 0 = aaaA := by rw [many_aaa.2]; rfl
      obtain ⟨bk9, o9, rfl, e9⟩ : ∃ bk o, so9 = some ⟨bk, o, none⟩ ∧ Hid (w9.cell? ⟨bk, o + 2, none⟩ = some (.int .i64 1)) := by
        rcases hl9 with h | ⟨bk, o, h, hc⟩
        · rw [h] at hl9'; cases hl9'
        · obtain ⟨ai, ci, ao, ct, he⟩ := hc 0 (by rw [hl9']; decide)
          rw [hn9] at he
          exact ⟨bk, o, h, he.c2⟩
      rw [hl9']
      clear hb hl9 hl9' hn9 M8 B8 H1
      have T9 := Lib.hid (heap_alloc_new w9 (.cells #[.string ⟨#[98]⟩, .int .i64 0, .int .i64 0, .string ⟨#[]⟩, .slice none 0 0, .slice none 0 0] 29))
      have A9 := Lib.hid (alloc_below w9 (.cells #[.string ⟨#[98]⟩, .int .i64 0, .int .i64 0, .string ⟨#[]⟩, .slice none 0 0, .slice none 0 0] 29))
      have B10 := Lib.hid (B9.out.trans (A9.out.mono B9.out.size))
      have M10 := Lib.hid (M9.out.below A9.out)
      have E10 := Lib.hid ((A9.out.cell (block_lt_of_cell e9.out)).trans e9.out)
      have LB := Lib.hid (els_one (w := w9.alloc (.cells #[.string ⟨#[98]⟩, .int .i64 0, .int .i64 0, .string ⟨#[]⟩, .slice none 0 0, .slice none 0 0] 29)) (a := bA) (ai := none) (ci := 0) (ao := none) (ct := 0) ⟨rfl, .inl rfl, .inl rfl, Nat.le_refl _, Nat.le_refl _, bA_wf⟩ T9.out)
      have H1 := Lib.hid (Merge_any xo (some ⟨w9.heap.size, 0, none⟩) (manyL 100) [bA] xc 1 (by rw [manyL_len]; decide) (by decide) _ M10.out LB.out (HE.out.below B10.out))
      rw [manyL_len] at H1
      clear B9 M9 e9
      go_wp2_with fail
      refine H1.out.mono ?_
      rintro e w11 ⟨so11, c11, rfl, _, _, hb⟩
      rw [many_b]
      generalize (mergeOut (manyL 100) [bA]).length = k11
      have B11 := Lib.hid (B10.out.trans (hb.mono B10.out.size))
      have M11 := Lib.hid (M10.out.below hb)
      have E11 := Lib.hid ((hb.cell (block_lt_of_cell E10.out)).trans E10.out)
      clear hb T9 A9 B10 M10 E10 LB H1
      have H1 := Lib.hid (CheckL_any xo (manyL 100) xc (by rw [manyL_len]; decide) w11 M11.out (HE.out.below B11.out))
      rw [manyL_len, errL_yes many_right] at H1
      go_wp2_with fail
      refine H1.out.mono ?_
      rintro e w12 ⟨rfl, hb⟩
      have B12 := Lib.hid (B11.out.trans (hb.mono B11.out.size))
      have E12 := (hb.cell (block_lt_of_cell E11.out)).trans E11.out
      clear hb M11 B11 E11 H1
      go_wp2_with fail
      refine (awake2_any _ (HE.out.below B12.out)).mono ?_
      rintro e wz ⟨rfl, hb⟩
      have BZ := Lib.hid (B12.out.trans (hb.mono B12.out.size))
      clear hb
      go_wp2_with fail
      go_ret
      exact ⟨rfl, BZ.out⟩
end Go.Proofs.YtiofnjnaleglgaaGreatDoor
