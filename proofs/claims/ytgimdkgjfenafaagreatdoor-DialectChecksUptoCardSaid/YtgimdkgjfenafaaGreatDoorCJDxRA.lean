import Derived.Test.YtgimdkgjfenafaaGreatDoorCJDxTT
namespace Go.Proofs.YtgimdkgjfenafaaGreatDoor
open Go.RowKit
open Lib (hid)
set_option maxHeartbeats 64000000 in
set_option maxRecDepth 100000 in
theorem RRightDef_any (x : DEl) (hs : DefSmall x.d) (w : World) (hd : DefOK w x) :
  Calls Tryz.prog 24 #[x.val] w fun e w' => e = .returned (.bool (rightD x.d)) ∧ Below w.heap.size w w' := by
 obtain ⟨W1, hW1⟩ : ∃ W1, W1 = (w.alloc (.cells #[.string x.d.name, .slice x.io x.d.ins.length x.ic, .slice x.oo x.d.outs.length x.oc, .slice x.no x.d.needs.length x.nc, .int .i64 x.d.regions, .int .i64 x.d.succs, .slice x.ko x.d.traits.length x.kc] 41)).alloc (.map #[] 0) := ⟨_, rfl⟩
 have HC : Hid (RrS x w W1) := by
  show RrS _ _ _
  rw [hW1]
  exact ⟨fst_block _ _ _, bel_two _ _ _⟩
 have HM : Hid (MapS 5 9 .u8 W1 (w.heap.size + 1) 0 (fun _ => none)) := by
  show MapS _ _ _ _ _ _ _
  rw [hW1]
  have := MapS.made 5 9 .u8 (w.alloc (.cells #[.string x.d.name, .slice x.io x.d.ins.length x.ic, .slice x.oo x.d.outs.length x.oc, .slice x.no x.d.needs.length x.nc, .int .i64 x.d.regions, .int .i64 x.d.succs, .slice x.ko x.d.traits.length x.kc] 41))
  rw [show (w.alloc (.cells #[.string x.d.name, .slice x.io x.d.ins.length x.ic, .slice x.oo x.d.outs.length x.oc, .slice x.no x.d.needs.length x.nc, .int .i64 x.d.regions, .int .i64 x.d.succs, .slice x.ko x.d.traits.length x.kc] 41)).heap.size = w.heap.size + 1 by simp] at this
  exact this
 have HD := hid hd
 have HS := hid hs
 have hni : (x.d.needs.length : Int) ≤ 1048576 := by have := hs.ln; omega
 have hti : (x.d.traits.length : Int) ≤ 1048576 := by have := hs.lt; omega
 have hii : (x.d.ins.length : Int) ≤ 1048576 := by have := hs.li; omega
 have hmm := @run_makeMap Tryz.prog
 clear hd hs
 unfold DEl.val
 go_enter Tryz.func24, Tryz.ntmps24
 go_upto_region 2 with fail
 rw [← hW1]
 clear hW1 hmm
 obtain ⟨c0, c1, c2, c3, c4, c5, c6, cf⟩ := dcells7 HC.out.t0
 go_wp2_with fail
 refine (IsName_some x.d.name _).mono ?_
 rintro e w2 ⟨b, rfl, hnb, rfl⟩
 cases b
 ·skip
  have HX := hid (show rightD x.d = false by unfold rightD; rw [hnb]; simp)
  clear hnb
  go_wp2_with fail
  go_ret
  exact ⟨by rw [HX.out]; rfl, HC.out.below⟩
 have HNM := hid hnb
 clear hnb
 go_wp2_with fail
 refine (RRules_any false x.io x.d.ins x.ic (by have := HS.out.li; omega) (fun s hq => by have := HS.out.zi s hq; omega) (w.heap.size + 1) 0 (fun _ => none) (by have := HS.out.li; omega) W1 (HD.out.ins.below HC.out.below) HM.out).mono ?_
 rintro e w3 ⟨hg, b, rfl, hbb, hbm⟩
 clear c0 c1 c2 c3 c4 c5 c6 cf
 replace HC := hid (HC.out.grown hg)
 clear hg
 obtain ⟨c0, c1, c2, c3, c4, c5, c6, cf⟩ := dcells7 HC.out.t0
 cases b
 ·skip
  have HX := hid (right_rules (Option.isSome_eq_false_iff.1 hbb.symm |> Option.isNone_iff_eq_none.1))
  clear hbb hbm
  go_wp2_with fail
  go_ret
  exact ⟨by rw [HX.out]; rfl, HC.out.below⟩
 obtain ⟨F, hF⟩ := Option.isSome_iff_exists.1 hbb.symm
 have HF := hid hF
 have HM3 := hid (hbm F hF)
 clear hbb hbm hF HM
 go_wp2_with fail
 refine (RRules_any true x.oo x.d.outs x.oc (by have := HS.out.lo; omega) (fun s hq => by have := HS.out.zo s hq; omega) (w.heap.size + 1) (0 + x.d.ins.length) F (by have := HS.out.li; have := HS.out.lo; omega) w3 (HD.out.outs.below HC.out.below) HM3.out).mono ?_
 rintro e w4 ⟨hg, b, rfl, hbb, -⟩
 clear c0 c1 c2 c3 c4 c5 c6 cf
 replace HC := hid (HC.out.grown hg)
 clear hg HM3
 obtain ⟨c0, c1, c2, c3, c4, c5, c6, cf⟩ := dcells7 HC.out.t0
 cases b
 ·skip
  have HX := hid (right_rules2 HF.out hbb.symm)
  clear hbb
  go_wp2_with fail
  go_ret
  exact ⟨by rw [HX.out]; rfl, HC.out.below⟩
 have HSG := hid (sgn_yes HF.out hbb.symm)
 clear hbb HF
 by_cases h10 : x.d.needs.length ≤ 10
 rotate_left
 ·have h10i : decide ((x.d.needs.length : Int) > 10) = true := decide_eq_true (by omega)
  have HX := hid (show rightD x.d = false by unfold rightD rightNeedsL; rw [decide_eq_false h10]; simp)
  clear h10
  go_wp2_with fail
  go_ret
  exact ⟨by rw [HX.out]; rfl, HC.out.below⟩
 have h10i : decide ((x.d.needs.length : Int) > 10) = false := decide_eq_false (by omega)
 have H10 := hid h10
 clear h10
 by_cases h1 : 0 ≤ x.d.regions
 rotate_left
 ·have h1i : decide (x.d.regions < 0) = true := decide_eq_true (by omega)
  have HX := hid (show rightD x.d = false by unfold rightD; rw [decide_eq_false h1]; simp)
  clear h1
  go_wp2_with fail
  go_ret
  exact ⟨by rw [HX.out]; rfl, HC.out.below⟩
 have h1i : decide (x.d.regions < 0) = false := decide_eq_false (by omega)
 have H1 := hid (decide_eq_true h1)
 clear h1
 by_cases h2 : x.d.regions ≤ 3
 rotate_left
 ·have h2i : decide (x.d.regions > 3) = true := decide_eq_true (by omega)
  have HX := hid (show rightD x.d = false by unfold rightD; rw [decide_eq_false h2]; simp)
  clear h2
  go_wp2_with fail
  go_ret
  exact ⟨by rw [HX.out]; rfl, HC.out.below⟩
 have h2i : decide (x.d.regions > 3) = false := decide_eq_false (by omega)
 have H2 := hid (decide_eq_true h2)
 clear h2
 by_cases h3 : 0 ≤ x.d.succs
 rotate_left
 ·have h3i : decide (x.d.succs < 0) = true := decide_eq_true (by omega)
  have HX := hid (show rightD x.d = false by unfold rightD; rw [decide_eq_false h3]; simp)
  clear h3
  go_wp2_with fail
  go_ret
  exact ⟨by rw [HX.out]; rfl, HC.out.below⟩
 have h3i : decide (x.d.succs < 0) = false := decide_eq_false (by omega)
 have H3 := hid (decide_eq_true h3)
 clear h3
 by_cases h4 : x.d.succs ≤ 4
 rotate_left
 ·have h4i : decide (x.d.succs > 4) = true := decide_eq_true (by omega)
  have HX := hid (show rightD x.d = false by unfold rightD; rw [decide_eq_false h4]; simp)
  clear h4
  go_wp2_with fail
  go_ret
  exact ⟨by rw [HX.out]; rfl, HC.out.below⟩
 have h4i : decide (x.d.succs > 4) = false := decide_eq_false (by omega)
 have H4 := hid (decide_eq_true h4)
 clear h4
 go_upto_region 4 with fail
 clear h10i h1i h2i h3i h4i
 go_wp2_with fail
 clear c0 c1 c2 c3 c4 c5 c6 cf
 have HC4 := HC
 clear HC
 go_loopw [4] (fun iv wr => ∃ m : Nat, m ≤ x.d.needs.length ∧ iv = .int .i64 m ∧ Hid (RrS x w wr ∧ ∀ k, k < m → needOK x.d.needs k)) (fun iv _ => x.d.needs.length - (intOf iv).toNat)
 case atStart => exact ⟨0, Nat.zero_le _, rfl, HC4.out, fun k h => absurd h (Nat.not_lt_zero _)⟩
 case round =>
  obtain ⟨m, hmm, rfl, HL⟩ := hrel
  have HC := hid HL.out.1
  by_cases hlt : m < x.d.needs.length
  ·skip
   obtain ⟨bk, o, hao, hq⟩ : ∃ bk o, x.no = some ⟨bk, o, none⟩ ∧ True := by
    rcases HD.out.needs with h0 | ⟨bk, o, h, _⟩
    ·rw [h0] at hlt; exact absurd hlt (Nat.not_lt_zero _)
    ·exact ⟨bk, o, h, trivial⟩
   have hjs := List.getElem?_eq_getElem hlt
   generalize x.d.needs[m]'hlt = n at hjs
   have HP := hid (needs_pair (RowIs.below HD.out.needs HC.out.below) hjs hao)
   have HJ := hid hjs
   have HLT := hid hlt
   have HAO := hid hao
   have hlti : (m : Int) < (x.d.needs.length : Int) := by omega
   clear hq hjs hlt hmm hao
   obtain ⟨c0, c1, c2, c3, c4, c5, c6, cf⟩ := dcells7 HC.out.t0
   go_upto_region 7 with fail
   clear c0 c1 c2 c3 c4 c5 c6 cf
   refine region7_any (x := x) (w := w) (m := m) (n := n) (bk := bk) (o := o) (fun _ _ d _ _ h => by cases d <;> exact h) (fun b X hX hbad hok => ?_) HD HAO HJ HLT hlti hni _ HC HP
   have HC := hX
   cases b
   rotate_left
   ·have HX := hid (needs_no HLT.out (hbad rfl))
    clear hbad hok
    go_wp2_with fail
    go_ret
    exact ⟨by rw [HX.out]; rfl, HC.out.below⟩
   have HOK := hid (hok rfl)
   clear hbad hok
   go_wp2_with fail
   go_roundw
   case rel => exact ⟨m + 1, HLT.out, by go_num, HC.out, fun k hk => by
     rcases Nat.lt_or_ge k m with h | h
     ·exact HL.out.2 k h
     ·obtain rfl : k = m := by omega
      exact HOK.out⟩
   case measure => have := HLT.out; simp only [intOf]; omega
  have hge : ¬ (m : Int) < (x.d.needs.length : Int) := by omega
  have HND := hid (needs_all H10.out fun k hk => HL.out.2 k (by omega))
  clear hlt hmm HL
  obtain ⟨c0, c1, c2, c3, c4, c5, c6, cf⟩ := dcells7 HC.out.t0
  go_wp2_with fail
  clear c0 c1 c2 c3 c4 c5 c6 cf
  clear hge
  have HC9 := HC
  clear HC
  go_loopw [5] (fun iv wx => ∃ m : Nat, m ≤ x.d.traits.length ∧ iv = .int .i64 m ∧ Hid (RrS x w wx ∧ ∀ k, k < m → traitOK x.d.traits k)) (fun iv _ => x.d.traits.length - (intOf iv).toNat)
  case atStart => exact ⟨0, Nat.zero_le _, rfl, HC9.out, fun k h => absurd h (Nat.not_lt_zero _)⟩
  case round =>
   obtain ⟨m, hmm, rfl, HL⟩ := hrel
   have HC := hid HL.out.1
   by_cases hlt : m < x.d.traits.length
   ·skip
    have hjs := List.getElem?_eq_getElem hlt
    generalize x.d.traits[m]'hlt = s at hjs
    obtain ⟨a, hya⟩ : ∃ a, x.ko = some a := by
     rcases HD.out.traits with h0 | ⟨a, h, _⟩
     ·rw [h0] at hjs; cases hjs
     ·exact ⟨a, h⟩
    have HYA := hid hya
    have HJ := hid hjs
    have HLT := hid hlt
    have hlti : (m : Int) < (x.d.traits.length : Int) := by omega
    have HNT := hid (show nthB x.d.traits m = s by unfold nthB; rw [hjs]; rfl)
    clear hjs hlt hmm hya
    obtain ⟨c0, c1, c2, c3, c4, c5, c6, cf⟩ := dcells7 HC.out.t0
    go_upto_region 12 with fail
    clear c0 c1 c2 c3 c4 c5 c6 cf
    refine region12_any (x := x) (w := w) (m := m) (s := s) (a := a) (fun _ _ d _ _ h => by cases d <;> exact h) (fun b X hX hbad hok => ?_) HD HYA HJ HLT hlti hti HNT _ HC
    have HC := hX
    cases b
    rotate_left
    ·have HX := hid (traits_no HLT.out (hbad rfl))
     clear hbad hok
     go_wp2_with fail
     go_ret
     exact ⟨by rw [HX.out]; rfl, HC.out.below⟩
    have HOK := hid (hok rfl)
    clear hbad hok
    go_wp2_with fail
    go_roundw
    case rel => exact ⟨m + 1, HLT.out, by go_num, HC.out, fun k hk => by
      rcases Nat.lt_or_ge k m with h | h
      ·exact HL.out.2 k h
      ·obtain rfl : k = m := by omega
       exact HOK.out⟩
    case measure => have := HLT.out; simp only [intOf]; omega
   have hge : ¬ (m : Int) < (x.d.traits.length : Int) := by omega
   have HTA := hid (traits_all (l := x.d.traits) fun k hk => HL.out.2 k (by omega))
   clear hlt hmm HL
   obtain ⟨c0, c1, c2, c3, c4, c5, c6, cf⟩ := dcells7 HC.out.t0
   go_upto_region 14 with fail
   clear c0 c1 c2 c3 c4 c5 c6 cf
   have HRT := hid (show rightTraitsL x.d.traits = !(isIn x.d.traits pureS && effectsL.any (isIn x.d.traits)) by unfold rightTraitsL; rw [HTA.out.1, HTA.out.2]; rfl)
   clear HTA hge
   have HLTT := hid (show x.d.traits.length ≤ 9223372036854775807 by have := HS.out.lt; omega)
   go_cut [166] (fun v wx => v = .bool (isIn x.d.traits pureS && effectsL.any (isIn x.d.traits)) ∧ wx = wr)
   case first =>
    obtain ⟨c0, c1, c2, c3, c4, c5, c6, cf⟩ := dcells7 HC.out.t0
    go_wp2_with fail
    refine (RHas_any x.ko x.d.traits x.kc pureS HLTT.out _ (HD.out.traits.below HC.out.below)).mono ?_
    rintro e w9 ⟨rfl, rfl⟩
    cases hp : isIn x.d.traits pureS
    ·have HT := hid hp
     clear hp
     go_wp2_with fail
     go_meet
     exact ⟨by rw [HT.out]; rfl, rfl⟩
    have HPU := hid hp
    clear hp
    go_wp2_with fail
    refine (RHas_any x.ko x.d.traits x.kc ⟨#[116, 114, 97, 112, 115]⟩ HLTT.out _ (HD.out.traits.below HC.out.below)).mono ?_
    rintro e w9 ⟨rfl, rfl⟩
    cases hqtraps : isIn x.d.traits ⟨#[116, 114, 97, 112, 115]⟩
    rotate_left
    ·have HE := hid (show effectsL.any (isIn x.d.traits) = true from List.any_eq_true.2 ⟨⟨#[116, 114, 97, 112, 115]⟩, by simp [effectsL], hqtraps⟩)
     clear hqtraps
     go_wp2_with fail
     go_meet
     exact ⟨by rw [HPU.out, HE.out]; rfl, rfl⟩
    have HQtraps := hid hqtraps
    clear hqtraps
    go_wp2_with fail
    refine (RHas_any x.ko x.d.traits x.kc ⟨#[114, 101, 97, 100, 115]⟩ HLTT.out _ (HD.out.traits.below HC.out.below)).mono ?_
    rintro e w9 ⟨rfl, rfl⟩
    cases hqreads : isIn x.d.traits ⟨#[114, 101, 97, 100, 115]⟩
    rotate_left
    ·have HE := hid (show effectsL.any (isIn x.d.traits) = true from List.any_eq_true.2 ⟨⟨#[114, 101, 97, 100, 115]⟩, by simp [effectsL], hqreads⟩)
     clear hqreads
     go_wp2_with fail
     go_meet
     exact ⟨by rw [HPU.out, HE.out]; rfl, rfl⟩
    have HQreads := hid hqreads
    clear hqreads
    go_wp2_with fail
    refine (RHas_any x.ko x.d.traits x.kc ⟨#[119, 114, 105, 116, 101, 115]⟩ HLTT.out _ (HD.out.traits.below HC.out.below)).mono ?_
    rintro e w9 ⟨rfl, rfl⟩
    cases hqwrites : isIn x.d.traits ⟨#[119, 114, 105, 116, 101, 115]⟩
    rotate_left
    ·have HE := hid (show effectsL.any (isIn x.d.traits) = true from List.any_eq_true.2 ⟨⟨#[119, 114, 105, 116, 101, 115]⟩, by simp [effectsL], hqwrites⟩)
     clear hqwrites
     go_wp2_with fail
     go_meet
     exact ⟨by rw [HPU.out, HE.out]; rfl, rfl⟩
    have HQwrites := hid hqwrites
    clear hqwrites
    go_wp2_with fail
    refine (RHas_any x.ko x.d.traits x.kc ⟨#[112, 114, 105, 110, 116, 115]⟩ HLTT.out _ (HD.out.traits.below HC.out.below)).mono ?_
    rintro e w9 ⟨rfl, rfl⟩
    cases hqprints : isIn x.d.traits ⟨#[112, 114, 105, 110, 116, 115]⟩
    rotate_left
    ·have HE := hid (show effectsL.any (isIn x.d.traits) = true from List.any_eq_true.2 ⟨⟨#[112, 114, 105, 110, 116, 115]⟩, by simp [effectsL], hqprints⟩)
     clear hqprints
     go_wp2_with fail
     go_meet
     exact ⟨by rw [HPU.out, HE.out]; rfl, rfl⟩
    have HQprints := hid hqprints
    clear hqprints
    go_wp2_with fail
    refine (RHas_any x.ko x.d.traits x.kc ⟨#[99, 97, 108, 108, 115]⟩ HLTT.out _ (HD.out.traits.below HC.out.below)).mono ?_
    rintro e w9 ⟨rfl, rfl⟩
    cases hqcalls : isIn x.d.traits ⟨#[99, 97, 108, 108, 115]⟩
    rotate_left
    ·have HE := hid (show effectsL.any (isIn x.d.traits) = true from List.any_eq_true.2 ⟨⟨#[99, 97, 108, 108, 115]⟩, by simp [effectsL], hqcalls⟩)
     clear hqcalls
     go_wp2_with fail
     go_meet
     exact ⟨by rw [HPU.out, HE.out]; rfl, rfl⟩
    have HQcalls := hid hqcalls
    clear hqcalls
    have HE := hid (show effectsL.any (isIn x.d.traits) = false by simp only [effectsL, List.any_cons, List.any_nil, HQtraps.out, HQreads.out, HQwrites.out, HQprints.out, HQcalls.out, Bool.or_false])
    go_wp2_with fail
    go_meet
    exact ⟨by rw [HPU.out, HE.out]; rfl, rfl⟩
   case rest =>
   obtain ⟨rfl, rfl⟩ := hcut
   cases hpe : (isIn x.d.traits pureS && effectsL.any (isIn x.d.traits))
   rotate_left
   ·skip
    have HX := hid (show rightD x.d = false by unfold rightD; rw [show rightTraitsL x.d.traits = false by rw [HRT.out, hpe]; rfl]; simp)
    clear hpe
    go_wp2_with fail
    go_ret
    exact ⟨by rw [HX.out]; rfl, HC.out.below⟩
   have HTT := hid (show rightTraitsL x.d.traits = true by rw [HRT.out, hpe]; rfl)
   clear hpe
   go_upto_region 16 with fail
   go_cut [175] (fun v wx => v = .bool (decide (0 < x.d.succs) && !isIn x.d.traits endS) ∧ wx = wc)
   case first =>
    obtain ⟨c0, c1, c2, c3, c4, c5, c6, cf⟩ := dcells7 HC.out.t0
    by_cases hs0 : 0 < x.d.succs
    rotate_left
    ·have hsi : decide (x.d.succs > 0) = false := decide_eq_false hs0
     have HT := hid (decide_eq_false hs0)
     clear hs0
     go_wp2_with fail
     go_meet
     exact ⟨by rw [HT.out]; rfl, rfl⟩
    have hsi : decide (x.d.succs > 0) = true := decide_eq_true hs0
    have HSU := hid (decide_eq_true hs0)
    clear hs0
    go_wp2_with fail
    refine (RHas_any x.ko x.d.traits x.kc endS HLTT.out _ (HD.out.traits.below HC.out.below)).mono ?_
    rintro e w9 ⟨rfl, rfl⟩
    generalize hen : isIn x.d.traits endS = en
    have HEN := hid hen
    clear hen
    go_wp2_with fail
    go_meet
    exact ⟨by rw [HSU.out, HEN.out]; rfl, rfl⟩
   case rest =>
   obtain ⟨rfl, rfl⟩ := hcut
   cases hse : (decide (0 < x.d.succs) && !isIn x.d.traits endS)
   rotate_left
   ·skip
    have HX := hid (show rightD x.d = false by unfold rightD; rw [show (!decide (0 < x.d.succs) || isIn x.d.traits endS) = false by simpa using hse]; simp)
    clear hse
    go_wp2_with fail
    go_ret
    exact ⟨by rw [HX.out]; rfl, HC.out.below⟩
   replace hse : (!decide (0 < x.d.succs) || isIn x.d.traits endS) = true := by
     cases h1 : decide (0 < x.d.succs) <;> cases h2 : isIn x.d.traits endS <;> simp_all
   have HRD := hid (show rightD x.d = (!isIn x.d.traits commS || exchL (x.d.ins.map ruleOf)) by unfold rightD; rw [HNM.out, HND.out, H1.out, H2.out, H3.out, H4.out, HSG.out, HTT.out, hse]; rfl)
   clear hse
   obtain ⟨c0, c1, c2, c3, c4, c5, c6, cf⟩ := dcells7 HC.out.t0
   go_wp2_with fail
   refine (RHas_any x.ko x.d.traits x.kc commS HLTT.out _ (HD.out.traits.below HC.out.below)).mono ?_
   rintro e w9 ⟨rfl, rfl⟩
   cases hcm : isIn x.d.traits commS
   ·have HX := hid (show rightD x.d = true by rw [HRD.out, hcm]; rfl)
    clear hcm
    go_wp2_with fail
    go_ret
    exact ⟨by rw [HX.out]; rfl, HC.out.below⟩
   have HRE := hid (show rightD x.d = exchL (x.d.ins.map ruleOf) by rw [HRD.out, hcm]; rfl)
   clear hcm
   by_cases hl2 : 2 ≤ x.d.ins.length
   rotate_left
   ·have hli : decide ((x.d.ins.length : Int) < 2) = true := decide_eq_true (by omega)
    have HX := hid (show rightD x.d = false by
      rw [HRE.out]
      match x.d.ins, hl2 with
      | [], _ => rfl
      | [s], _ => rw [List.map_cons]; cases ruleOf s <;> rfl
      | _ :: _ :: _, h => exact absurd (by simp) h)
    clear hl2
    go_wp2_with fail
    go_ret
    exact ⟨by rw [HX.out]; rfl, HC.out.below⟩
   have hli : decide ((x.d.ins.length : Int) < 2) = false := decide_eq_false (by omega)
   have h0s := List.getElem?_eq_getElem (show 0 < x.d.ins.length by omega)
   have h1s := List.getElem?_eq_getElem (show 1 < x.d.ins.length by omega)
   generalize x.d.ins[0]'_ = s0 at h0s
   generalize x.d.ins[1]'_ = s1 at h1s
   have HEX := hid (show rightD x.d = ((ruleOf s0).sortR == 2 && (ruleOf s1).sortR == 3 && ((ruleOf s0).v.toNat : Int) == ((ruleOf s1).v.toNat : Int)) by
     rw [HRE.out]
     match hq : x.d.ins, hl2 with
     | [], h => exact absurd h (by decide)
     | [_], h => exact absurd h (by simp)
     | q0 :: q1 :: l, _ =>
      rw [hq] at h0s h1s
      obtain rfl : q0 = s0 := Option.some.inj h0s
      obtain rfl : q1 = s1 := Option.some.inj h1s
      exact exch_sort _ _ _)
   obtain ⟨a, hya⟩ : ∃ a, x.io = some a := by
    rcases HD.out.ins with h0 | ⟨a, h, _⟩
    ·rw [h0] at h0s; cases h0s
    ·exact ⟨a, h⟩
   have HYA := hid hya
   have H0S := hid h0s
   have H1S := hid h1s
   have HZ0 := hid (show s0.size ≤ 9223372036854775807 by have := HS.out.zi s0 (List.mem_of_getElem? h0s); omega)
   have HZ1 := hid (show s1.size ≤ 9223372036854775807 by have := HS.out.zi s1 (List.mem_of_getElem? h1s); omega)
   have hl0 : (0 : Int) < (x.d.ins.length : Int) := by omega
   have hl1 : (1 : Int) < (x.d.ins.length : Int) := by omega
   clear h0s h1s hl2 hya
   go_upto_region 21 with fail
   clear hli
   clear c0 c1 c2 c3 c4 c5 c6 cf
   go_cut [6, 7] (fun p q wx => ∃ da db, p = .pointer (some ⟨da, 0, none⟩) ∧ q = .pointer (some ⟨db, 0, none⟩) ∧ Hid (RrS x w wx ∧ wx.heap[da]? = some (.cells #[.int .i64 (ruleOf s0).sortR, .int .u8 ((ruleOf s0).v.toNat : Int), .string (ruleOf s0).whatR] 119 (0, 0)) ∧ wx.heap[db]? = some (.cells #[.int .i64 (ruleOf s1).sortR, .int .u8 ((ruleOf s1).v.toNat : Int), .string (ruleOf s1).whatR] 119 (0, 0))))
   case first =>
    have HK0 := fun (X : World) (h : Hid (RrS x w X)) => (show X.cell? (a.add 0) = some (.string s0) from strs_at (by have := HD.out.ins.below h.out.below; rw [HYA.out] at this; exact this) H0S.out)
    have HK1 := fun (X : World) (h : Hid (RrS x w X)) => (show X.cell? (a.add 1) = some (.string s1) from strs_at (by have := HD.out.ins.below h.out.below; rw [HYA.out] at this; exact this) H1S.out)
    refine region21_any (x := x) (w := w) (a := a) (s0 := s0) (s1 := s1) HZ0.out HZ1.out (fun _ _ d _ _ h => by cases d <;> exact h) (fun X da db h => ?_) (fun e => by rw [e] at hl0; exact absurd hl0 (by decide)) hl1 HYA.out HK0 HK1 _ HC
    go_wp2_with fail
    go_meet
    exact ⟨da, db, rfl, rfl, h⟩
   case rest =>
   obtain ⟨da, db, rfl, rfl, HQ⟩ := hcut
   obtain ⟨a0, a1, a2, af⟩ := cells3 HQ.out.2.1
   obtain ⟨b0, b1, b2, bf⟩ := cells3 HQ.out.2.2
   have HBB := hid HQ.out.1.below
   generalize (ruleOf s0).sortR = p0 at a0 HEX
   generalize (ruleOf s1).sortR = p1 at b0 HEX
   generalize ((ruleOf s0).v.toNat : Int) = v0 at a1 HEX
   generalize ((ruleOf s1).v.toNat : Int) = v1 at b1 HEX
   clear a2 b2 af bf hl0 hl1
   cases h0 : (p0 == 2)
   ·skip
    have HX := hid (show rightD x.d = false by rw [HEX.out, h0]; rfl)
    go_wp2_with fail
    go_ret
    exact ⟨by rw [HX.out]; rfl, HBB.out⟩
   cases h1 : (p1 == 3)
   ·skip
    have HX := hid (show rightD x.d = false by rw [HEX.out, h0, h1]; rfl)
    go_wp2_with fail
    go_ret
    exact ⟨by rw [HX.out]; rfl, HBB.out⟩
   cases h2 : (v0 == v1)
   ·skip
    have HX := hid (show rightD x.d = false by rw [HEX.out, h0, h1, h2]; rfl)
    go_wp2_with fail
    go_ret
    exact ⟨by rw [HX.out]; rfl, HBB.out⟩
   have HX := hid (show rightD x.d = true by rw [HEX.out, h0, h1, h2]; rfl)
   go_wp2_with fail
   go_ret
   exact ⟨by rw [HX.out]; rfl, HBB.out⟩
end Go.Proofs.YtgimdkgjfenafaaGreatDoor
