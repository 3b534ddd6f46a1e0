import Derived.Test.YtgimdkgjfenafaaGreatDoorCG28
import Derived.Test.YtgimdkgjfenafaaGreatDoorCG21
import Derived.Test.YtgimdkgjfenafaaGreatDoorCG22
import Derived.Test.YtgimdkgjfenafaaGreatDoorCG20
import Derived.Test.YtgimdkgjfenafaaGreatDoorCG26
import Derived.Test.YtgimdkgjfenafaaGreatDoorCG27
import Derived.Test.YtgimdkgjfenafaaGreatDoorCG24
namespace Go.Proofs.YtgimdkgjfenafaaGreatDoor
open Go.RowKit
def rightN (n : NeedD) : Bool := isNameR n.name.data.toList && decide (0 ≤ n.kind) && decide (n.kind ≤ 5)
def rightNeedsL (l : List NeedD) : Bool := decide (l.length ≤ 10) && risingL (l.map (fun x : NeedD => x.name)) && l.all rightN
set_option maxHeartbeats 8000000 in
set_option maxRecDepth 100000 in
theorem areRightNeeds_any (ao : Option Addr) (l : List NeedD) (c : Nat) (hn : l.length ≤ 9223372036854775807) (w : World) (h : NeedsAt w ao l) :
  Calls Tryz.prog 129 #[.slice ao l.length c] w fun e w' => e = .returned (.bool (rightNeedsL l)) ∧ Below w.heap.size w w' := by
 have H := Lib.hid h
 clear h
 by_cases h10 : l.length ≤ 10
 rotate_left
 ·have hx : (10 : Int) < (l.length : Int) := by omega
  have HX := Lib.hid (show rightNeedsL l = false by unfold rightNeedsL; rw [decide_eq_false h10]; rfl)
  clear h10
  go_enter Tryz.func129, Tryz.ntmps129
  go_wp2_with fail
  go_ret
  exact ⟨by rw [HX.out]; rfl, Below.refl _ _⟩
 have hx : ¬ (10 : Int) < (l.length : Int) := by omega
 have H10 := Lib.hid h10
 have HN := Lib.hid hn
 have hni : (l.length : Int) ≤ 10 := by omega
 clear h10 hn
 go_enter Tryz.func129, Tryz.ntmps129
 go_wp2_with fail
 clear hx
 refine (areRisingNeed_any ao l c HN.out w H.out).mono ?_
 rintro e w1 ⟨rfl, hb⟩
 have HB1 := Lib.hid hb
 clear hb
 cases hr : risingL (l.map (fun x : NeedD => x.name))
 ·have HX := Lib.hid (show rightNeedsL l = false by unfold rightNeedsL; rw [hr, Bool.and_false]; rfl)
  clear hr
  go_wp2_with fail
  go_ret
  exact ⟨by rw [HX.out]; rfl, HB1.out⟩
 have HR := Lib.hid hr
 clear hr
 go_wp2_with fail
 go_loopw [15] (fun iv wr => ∃ m : Nat, m ≤ l.length ∧ iv = .int .i64 m ∧ Hid (Below w.heap.size w wr ∧ ∀ (j : Nat) (s : NeedD), j < m → l[j]? = some s → rightN s = true)) (fun iv _ => l.length - (intOf iv).toNat)
 case atStart => exact ⟨0, Nat.zero_le _, rfl, HB1.out, fun j r h => absurd h (Nat.not_lt_zero _)⟩
 case round =>
  obtain ⟨m, hmm, rfl, HL⟩ := hrel
  by_cases hlt : m < l.length
  rotate_left
  ·have hge : ¬ (m : Int) < (l.length : Int) := by omega
   have HA := Lib.hid (show l.all rightN = true from List.all_eq_true.2 fun s hs => by
    obtain ⟨j, hj⟩ := List.getElem?_of_mem hs
    exact HL.out.2 j s (by have := (List.getElem?_eq_some_iff.1 hj).1; omega) hj)
   have HX := Lib.hid (show rightNeedsL l = true by unfold rightNeedsL; rw [HR.out, HA.out, decide_eq_true H10.out]; rfl)
   clear hlt hmm
   go_wp2_with fail
   go_ret
   exact ⟨by rw [HX.out]; rfl, HL.out.1⟩
  obtain ⟨bk, o, e1, k1, k2⟩ := NeedsAt.at (RowIs.below H.out HL.out.1) hlt
  obtain rfl : ao = _ := e1
  have hjs := List.getElem?_eq_getElem hlt
  generalize l[m] = x at k1 k2 hjs
  have HJ := Lib.hid hjs
  have HLT := Lib.hid hlt
  have hlti : (m : Int) < (l.length : Int) := by omega
  have T1 := Lib.hid (heap_alloc_new wr (.cells #[.string x.name, .int .i64 x.kind] 103))
  have B1 := Lib.hid (HL.out.1.alloc HL.out.1.size (.cells #[.string x.name, .int .i64 x.kind] 103))
  clear hlt hmm hjs
  go_wp2_with fail
  generalize wr.alloc (.cells #[.string x.name, .int .i64 x.kind] 103) = W1 at T1 B1 ⊢
  generalize wr.heap.size = D at T1 ⊢
  clear k1 k2
  refine (isName_any x.name W1).mono ?_
  rintro e w2 ⟨rfl, hb⟩
  have T2 := Lib.hid ((hb.block _ (lt_of_block T1.out)).trans T1.out)
  have B2 := Lib.hid (B1.out.trans (hb.mono B1.out.size))
  clear hb
  obtain ⟨c0, c1, cf⟩ := cells2 T2.out
  cases hnm : isNameR x.name.data.toList
  ·have HX := Lib.hid (show rightNeedsL l = false by
    have e : l.all rightN = false := by
     rw [List.all_eq_false]
     exact ⟨x, List.mem_of_getElem? HJ.out, by unfold rightN; rw [hnm]; simp⟩
    unfold rightNeedsL
    rw [e, Bool.and_false])
   clear hnm
   go_wp2_with fail
   go_ret
   exact ⟨by rw [HX.out]; rfl, B2.out⟩
  have HNM := Lib.hid hnm
  clear hnm
  by_cases h0 : 0 ≤ x.kind
  rotate_left
  ·have h0i : decide (x.kind < 0) = true := decide_eq_true (by omega)
   have HX := Lib.hid (show rightNeedsL l = false by
    have e : l.all rightN = false := by
     rw [List.all_eq_false]
     exact ⟨x, List.mem_of_getElem? HJ.out, by unfold rightN; rw [decide_eq_false h0]; simp⟩
    unfold rightNeedsL
    rw [e, Bool.and_false])
   clear h0
   go_wp2_with fail
   go_ret
   exact ⟨by rw [HX.out]; rfl, B2.out⟩
  by_cases h5 : x.kind ≤ 5
  rotate_left
  ·have h0i : decide (x.kind < 0) = false := decide_eq_false (by omega)
   have h5i : decide (x.kind > 5) = true := decide_eq_true (by omega)
   have HX := Lib.hid (show rightNeedsL l = false by
    have e : l.all rightN = false := by
     rw [List.all_eq_false]
     exact ⟨x, List.mem_of_getElem? HJ.out, by unfold rightN; rw [decide_eq_false h5]; simp⟩
    unfold rightNeedsL
    rw [e, Bool.and_false])
   clear h0 h5
   go_wp2_with fail
   go_ret
   exact ⟨by rw [HX.out]; rfl, B2.out⟩
  have h0i : decide (x.kind < 0) = false := decide_eq_false (by omega)
  have h5i : decide (x.kind > 5) = false := decide_eq_false (by omega)
  have HRN := Lib.hid (show rightN x = true by unfold rightN; rw [HNM.out, decide_eq_true h0, decide_eq_true h5]; rfl)
  clear h0 h5
  go_wp2_with fail
  go_roundw
  case rel => exact ⟨m + 1, HLT.out, by go_num, B2.out, fun j y hj hy => by
    rcases Nat.lt_or_ge j m with h | h
    ·exact HL.out.2 j y h hy
    ·obtain rfl : j = m := by omega
     rw [HJ.out] at hy
     cases hy
     exact HRN.out⟩
  case measure => have := HLT.out; simp only [intOf]; omega
end Go.Proofs.YtgimdkgjfenafaaGreatDoor
namespace Go.Proofs.YtgimdkgjfenafaaGreatDoor
open Go.RowKit
def endS : ByteArray := ⟨#[101, 110, 100]⟩
def commS : ByteArray := ⟨#[99, 111, 109, 109, 117, 116, 101, 115]⟩
def rightD (d : DefD) : Bool :=
 isNameR d.name.data.toList && rightNeedsL d.needs && decide (0 ≤ d.regions) && decide (d.regions ≤ 3) && decide (0 ≤ d.succs) && decide (d.succs ≤ 4) && signedL d && rightTraitsL d.traits &&
  (!decide (0 < d.succs) || isIn d.traits endS) && (!isIn d.traits commS || exchL (d.ins.map ruleOf))
theorem signed_ref (d : DefD) : signedL d = (match rulesR false d.ins (fun _ => none) with | none => false | some f => (rulesR true d.outs f).isSome) := by
 unfold signedL rulesR
 by_cases h1 : d.ins.length ≤ 10
 ·rw [if_pos h1, decide_eq_true h1, Bool.true_and]
  have e := goR_str false d.ins.length d.ins 0 (fun _ => none)
  rw [show clsStr (fun _ => none) = (fun _ => none) from rfl] at e
  rw [e]
  cases hg : goC false d.ins.length 0 (d.ins.map ruleOf) (fun _ => none) with
  | none => simp
  | some F =>
   show (decide (d.outs.length ≤ 10) && ((goC false d.outs.length 0 (d.outs.map ruleOf) F).isSome && !(d.outs.map ruleOf).any Rule.inOnly)) = (if d.outs.length ≤ 10 then goR true d.outs.length 0 d.outs (clsStr F) else none).isSome
   by_cases h2 : d.outs.length ≤ 10
   ·rw [if_pos h2, decide_eq_true h2, goR_str true d.outs.length d.outs 0 F, Option.isSome_map, goC_out, Bool.true_and]
   ·rw [if_neg h2, decide_eq_false h2]; rfl
 ·rw [if_neg h1, decide_eq_false h1]; rfl
end Go.Proofs.YtgimdkgjfenafaaGreatDoor
namespace Go.Proofs.YtgimdkgjfenafaaGreatDoor
open Go.RowKit
structure DefFit (d : DefD) : Prop where
 zi : ∀ s ∈ d.ins, s.size ≤ 9223372036854775806
 zo : ∀ s ∈ d.outs, s.size ≤ 9223372036854775806
 li : d.ins.length ≤ 9223372036854775806
 lo : d.outs.length ≤ 9223372036854775806
 ln : d.needs.length ≤ 9223372036854775806
 lt : d.traits.length ≤ 9223372036854775806
def DescP (d : DefD) (w : World) (e : Ending) (w' : World) : Prop := Below w.heap.size w w' ∧
 ((rightD d = false ∧ e = .returned (.tuple #[.agg #[.slice none 0 0, .slice none 0 0], .bool false])) ∨
  (rightD d = true ∧ ∃ ai ci ao co, e = .returned (.tuple #[.agg #[.slice ai d.ins.length ci, .slice ao d.outs.length co], .bool true]) ∧ RulesAt (above w.heap.size w') ai (d.ins.map ruleOf) ∧ RulesAt (above w.heap.size w') ao (d.outs.map ruleOf)))
theorem rightD_long {d : DefD} (h : signedL d = true) : d.ins.length ≤ 10 ∧ d.outs.length ≤ 10 := by
 unfold signedL at h
 simp only [Bool.and_eq_true, decide_eq_true_eq] at h
 exact ⟨h.1.1, h.1.2⟩
theorem exch_any' (ao : Option Addr) (l : List ByteArray) (c : Nat) (hn : l.length ≤ 1000) (w : World) (h : RulesAt w ao (l.map ruleOf)) :
  Calls Tryz.prog 132 #[.slice ao l.length c] w fun e w' => e = .returned (.bool (exchL (l.map ruleOf))) ∧ Below w.heap.size w w' := by
 have := isExchangeable_any ao (l.map ruleOf) c (by rw [List.length_map]; exact hn) w h
 rw [List.length_map] at this
 exact this
set_option maxHeartbeats 16000000 in
set_option maxRecDepth 100000 in
theorem dDescribed_any (x : DEl) (hf : DefFit x.d) (w : World) (hd : DefOK w x) (hE : Env w) :
  Calls Tryz.prog 83 #[x.val] w (DescP x.d w) := by
 obtain ⟨W1, hW1⟩ : ∃ W1, W1 = (w.alloc (.cells #[.string x.d.name, .slice x.io x.d.ins.length x.ic, .slice x.oo x.d.outs.length x.oc, .slice x.no x.d.needs.length x.nc, .int .i64 x.d.regions, .int .i64 x.d.succs, .slice x.ko x.d.traits.length x.kc] 36)).alloc (.cells #[.slice none 0 0, .slice none 0 0] 107) := ⟨_, rfl⟩
 have T0 : Hid (W1.heap[w.heap.size]? = some (.cells #[.string x.d.name, .slice x.io x.d.ins.length x.ic, .slice x.oo x.d.outs.length x.oc, .slice x.no x.d.needs.length x.nc, .int .i64 x.d.regions, .int .i64 x.d.succs, .slice x.ko x.d.traits.length x.kc] 36 (0, 0))) := by show W1.heap[_]? = _; rw [hW1]; exact fst_block _ _ _
 have T1 : Hid (W1.heap[w.heap.size + 1]? = some (.cells #[.slice none 0 0, .slice none 0 0] 107 (0, 0))) := by show W1.heap[_]? = _; rw [hW1]; exact snd_block _ _ _
 have B1 : Hid (Below w.heap.size w W1 ∧ w.heap.size + 1 < W1.heap.size) := by
  show Below _ _ _ ∧ _
  rw [hW1]
  exact ⟨bel_two _ _ _, lt_of_block (snd_block _ _ _)⟩
 have HF := Lib.hid hf
 have HD := Lib.hid hd
 have HE := Lib.hid hE
 clear hf hd hE
 unfold DEl.val
 go_enter Tryz.func83, Tryz.ntmps83
 go_upto_region 1 with fail
 rw [← hW1]
 clear hW1
 obtain ⟨c0, c1, c2, c3, c4, c5, c6, cf⟩ := dcells7 T0.out
 obtain ⟨g0, g1, gf⟩ := cells2 T1.out
 go_wp2_with fail
 refine (isName_any x.d.name _).mono ?_
 rintro e w2 ⟨rfl, hb⟩
 clear c0 c1 c2 c3 c4 c5 c6 cf g0 g1 gf
 replace T0 := Lib.hid ((hb.block _ (lt_of_block T0.out)).trans T0.out)
 replace T1 := Lib.hid ((hb.block _ (lt_of_block T1.out)).trans T1.out)
 replace B1 := Lib.hid (show Below w.heap.size w _ ∧ _ from ⟨B1.out.1.trans (hb.mono B1.out.1.size), Nat.lt_of_lt_of_le B1.out.2 hb.size⟩)
 clear hb
 obtain ⟨c0, c1, c2, c3, c4, c5, c6, cf⟩ := dcells7 T0.out
 obtain ⟨g0, g1, gf⟩ := cells2 T1.out
 cases hnm : isNameR x.d.name.data.toList
 ·have HNM := Lib.hid hnm
  have HN := Lib.hid (show rightD x.d = false by unfold rightD; rw [hnm]; simp)
  clear hnm
  go_wp2_with fail
  refine bodyPost_ret (v := .tuple #[.agg #[.slice none 0 0, .slice none 0 0], .bool false]) (results_cell_tmp Tryz.results83 rfl rfl (sigVar (set2_block T1.out))) rfl ?_
  exact ⟨below_set2 B1.out.1 (Nat.le_succ _), .inl ⟨HN.out, rfl⟩⟩
 have HNM := Lib.hid hnm
 clear hnm
 go_wp2_with fail
 refine (areRightNeeds_any x.no x.d.needs x.nc (by have := HF.out.ln; omega) _ (RowIs.below HD.out.needs B1.out.1)).mono ?_
 rintro e w3 ⟨rfl, hb⟩
 clear c0 c1 c2 c3 c4 c5 c6 cf g0 g1 gf
 replace T0 := Lib.hid ((hb.block _ (lt_of_block T0.out)).trans T0.out)
 replace T1 := Lib.hid ((hb.block _ (lt_of_block T1.out)).trans T1.out)
 replace B1 := Lib.hid (show Below w.heap.size w _ ∧ _ from ⟨B1.out.1.trans (hb.mono B1.out.1.size), Nat.lt_of_lt_of_le B1.out.2 hb.size⟩)
 clear hb
 obtain ⟨c0, c1, c2, c3, c4, c5, c6, cf⟩ := dcells7 T0.out
 obtain ⟨g0, g1, gf⟩ := cells2 T1.out
 cases hnd : rightNeedsL x.d.needs
 ·have HND := Lib.hid hnd
  have HN := Lib.hid (show rightD x.d = false by unfold rightD; rw [hnd]; simp)
  clear hnd
  go_wp2_with fail
  refine bodyPost_ret (v := .tuple #[.agg #[.slice none 0 0, .slice none 0 0], .bool false]) (results_cell_tmp Tryz.results83 rfl rfl (sigVar (set2_block T1.out))) rfl ?_
  exact ⟨below_set2 B1.out.1 (Nat.le_succ _), .inl ⟨HN.out, rfl⟩⟩
 have HND := Lib.hid hnd
 clear hnd
 by_cases h1 : 0 ≤ x.d.regions
 rotate_left
 ·have h1i : decide (x.d.regions < 0) = true := decide_eq_true (by omega)
  have HN := Lib.hid (show rightD x.d = false by unfold rightD; rw [decide_eq_false h1]; simp)
  clear h1
  go_wp2_with fail
  refine bodyPost_ret (v := .tuple #[.agg #[.slice none 0 0, .slice none 0 0], .bool false]) (results_cell_tmp Tryz.results83 rfl rfl (sigVar (set2_block T1.out))) rfl ?_
  exact ⟨below_set2 B1.out.1 (Nat.le_succ _), .inl ⟨HN.out, rfl⟩⟩
 have h1i : decide (x.d.regions < 0) = false := decide_eq_false (by omega)
 have H1 := Lib.hid (decide_eq_true h1)
 clear h1
 by_cases h2 : x.d.regions ≤ 3
 rotate_left
 ·have h2i : decide (x.d.regions > 3) = true := decide_eq_true (by omega)
  have HN := Lib.hid (show rightD x.d = false by unfold rightD; rw [decide_eq_false h2]; simp)
  clear h2
  go_wp2_with fail
  refine bodyPost_ret (v := .tuple #[.agg #[.slice none 0 0, .slice none 0 0], .bool false]) (results_cell_tmp Tryz.results83 rfl rfl (sigVar (set2_block T1.out))) rfl ?_
  exact ⟨below_set2 B1.out.1 (Nat.le_succ _), .inl ⟨HN.out, rfl⟩⟩
 have h2i : decide (x.d.regions > 3) = false := decide_eq_false (by omega)
 have H2 := Lib.hid (decide_eq_true h2)
 clear h2
 by_cases h3 : 0 ≤ x.d.succs
 rotate_left
 ·have h3i : decide (x.d.succs < 0) = true := decide_eq_true (by omega)
  have HN := Lib.hid (show rightD x.d = false by unfold rightD; rw [decide_eq_false h3]; simp)
  clear h3
  go_wp2_with fail
  refine bodyPost_ret (v := .tuple #[.agg #[.slice none 0 0, .slice none 0 0], .bool false]) (results_cell_tmp Tryz.results83 rfl rfl (sigVar (set2_block T1.out))) rfl ?_
  exact ⟨below_set2 B1.out.1 (Nat.le_succ _), .inl ⟨HN.out, rfl⟩⟩
 have h3i : decide (x.d.succs < 0) = false := decide_eq_false (by omega)
 have H3 := Lib.hid (decide_eq_true h3)
 clear h3
 by_cases h4 : x.d.succs ≤ 4
 rotate_left
 ·have h4i : decide (x.d.succs > 4) = true := decide_eq_true (by omega)
  have HN := Lib.hid (show rightD x.d = false by unfold rightD; rw [decide_eq_false h4]; simp)
  clear h4
  go_wp2_with fail
  refine bodyPost_ret (v := .tuple #[.agg #[.slice none 0 0, .slice none 0 0], .bool false]) (results_cell_tmp Tryz.results83 rfl rfl (sigVar (set2_block T1.out))) rfl ?_
  exact ⟨below_set2 B1.out.1 (Nat.le_succ _), .inl ⟨HN.out, rfl⟩⟩
 have h4i : decide (x.d.succs > 4) = false := decide_eq_false (by omega)
 have H4 := Lib.hid (decide_eq_true h4)
 clear h4
 go_upto_region 3 with fail
 clear h1i h2i h3i h4i
 have HSG := Lib.hid (signed_any x HF.out.zi HF.out.zo (by have := HF.out.li; omega) (by have := HF.out.lo; omega) w3 (HD.out.below B1.out.1) (HE.out.below B1.out.1))
 unfold DEl.val at HSG
 go_wp2_with fail
 refine HSG.out.mono ?_
 rintro e w4 ⟨hb, (⟨hsg, rfl⟩ | ⟨hsg, ai, ci, ao, co, rfl, hri, hro⟩)⟩
 ·clear HSG
  clear c0 c1 c2 c3 c4 c5 c6 cf g0 g1 gf
  replace T0 := Lib.hid ((hb.block _ (lt_of_block T0.out)).trans T0.out)
  replace T1 := Lib.hid ((hb.block _ (lt_of_block T1.out)).trans T1.out)
  replace B1 := Lib.hid (show Below w.heap.size w _ ∧ _ from ⟨B1.out.1.trans (hb.mono B1.out.1.size), Nat.lt_of_lt_of_le B1.out.2 hb.size⟩)
  clear hb
  have HNB := new_below w4 (.cells #[.slice none 0 0, .slice none 0 0] 107)
  have hb := HNB
  have HT4 := Lib.hid (heap_alloc_new w4 (.cells #[.slice none 0 0, .slice none 0 0] 107))
  clear HNB
  replace T0 := Lib.hid ((hb.block _ (lt_of_block T0.out)).trans T0.out)
  replace T1 := Lib.hid ((hb.block _ (lt_of_block T1.out)).trans T1.out)
  replace B1 := Lib.hid (show Below w.heap.size w _ ∧ _ from ⟨B1.out.1.trans (hb.mono B1.out.1.size), Nat.lt_of_lt_of_le B1.out.2 hb.size⟩)
  clear hb
  obtain ⟨c0, c1, c2, c3, c4, c5, c6, cf⟩ := dcells7 T0.out
  obtain ⟨g0, g1, gf⟩ := cells2 T1.out
  have HN := Lib.hid (show rightD x.d = false by unfold rightD; rw [hsg]; simp)
  clear hsg
  go_wp2_with fail
  refine bodyPost_ret (v := .tuple #[.agg #[.slice none 0 0, .slice none 0 0], .bool false]) (results_cell_tmp Tryz.results83 rfl rfl (sigVar (set2_block T1.out))) rfl ?_
  exact ⟨below_set2 B1.out.1 (Nat.le_succ _), .inl ⟨HN.out, rfl⟩⟩
 have HSG := Lib.hid hsg
 have HRI := Lib.hid hri
 have HRO := Lib.hid hro
 have HM := Lib.hid (show w.heap.size + 1 < w3.heap.size from B1.out.2)
 clear hsg hri hro
 clear c0 c1 c2 c3 c4 c5 c6 cf g0 g1 gf
 replace T0 := Lib.hid ((hb.block _ (lt_of_block T0.out)).trans T0.out)
 replace T1 := Lib.hid ((hb.block _ (lt_of_block T1.out)).trans T1.out)
 replace B1 := Lib.hid (show Below w.heap.size w _ ∧ _ from ⟨B1.out.1.trans (hb.mono B1.out.1.size), Nat.lt_of_lt_of_le B1.out.2 hb.size⟩)
 clear hb
 have hb := new_below w4 (.cells #[.slice ai x.d.ins.length ci, .slice ao x.d.outs.length co] 107)
 have HT4 := Lib.hid (heap_alloc_new w4 (.cells #[.slice ai x.d.ins.length ci, .slice ao x.d.outs.length co] 107))
 replace HRI := Lib.hid (RowIs.keeps HRI.out (above_below hb))
 replace HRO := Lib.hid (RowIs.keeps HRO.out (above_below hb))
 replace T0 := Lib.hid ((hb.block _ (lt_of_block T0.out)).trans T0.out)
 replace T1 := Lib.hid ((hb.block _ (lt_of_block T1.out)).trans T1.out)
 replace B1 := Lib.hid (show Below w.heap.size w _ ∧ _ from ⟨B1.out.1.trans (hb.mono B1.out.1.size), Nat.lt_of_lt_of_le B1.out.2 hb.size⟩)
 clear hb
 go_upto_region 4 with fail
 generalize w4.alloc (.cells #[.slice ai x.d.ins.length ci, .slice ao x.d.outs.length co] 107) = W5 at HT4 HRI HRO T0 T1 B1 ⊢
 generalize w3.heap.size = M at HM HRI HRO
 generalize w4.heap.size = D at HT4 ⊢
 obtain ⟨c0, c1, c2, c3, c4, c5, c6, cf⟩ := dcells7 T0.out
 obtain ⟨g0, g1, gf⟩ := cells2 T1.out
 go_wp2_with fail
 refine (areRightTraits_any x.ko x.d.traits x.kc HF.out.lt _ (HD.out.traits.below B1.out.1)).mono ?_
 rintro e w6 ⟨rfl, hb⟩
 replace HT4 := Lib.hid ((hb.block _ (lt_of_block HT4.out)).trans HT4.out)
 replace HRI := Lib.hid (RowIs.keeps HRI.out (above_below hb))
 replace HRO := Lib.hid (RowIs.keeps HRO.out (above_below hb))
 clear c0 c1 c2 c3 c4 c5 c6 cf g0 g1 gf
 replace T0 := Lib.hid ((hb.block _ (lt_of_block T0.out)).trans T0.out)
 replace T1 := Lib.hid ((hb.block _ (lt_of_block T1.out)).trans T1.out)
 replace B1 := Lib.hid (show Below w.heap.size w _ ∧ _ from ⟨B1.out.1.trans (hb.mono B1.out.1.size), Nat.lt_of_lt_of_le B1.out.2 hb.size⟩)
 clear hb
 obtain ⟨c0, c1, c2, c3, c4, c5, c6, cf⟩ := dcells7 T0.out
 obtain ⟨g0, g1, gf⟩ := cells2 T1.out
 cases htr : rightTraitsL x.d.traits
 ·have HTR := Lib.hid htr
  have HN := Lib.hid (show rightD x.d = false by unfold rightD; rw [htr]; simp)
  clear htr
  go_wp2_with fail
  refine bodyPost_ret (v := .tuple #[.agg #[.slice none 0 0, .slice none 0 0], .bool false]) (results_cell_tmp Tryz.results83 rfl rfl (sigVar (set2_block T1.out))) rfl ?_
  exact ⟨below_set2 B1.out.1 (Nat.le_succ _), .inl ⟨HN.out, rfl⟩⟩
 have HTR := Lib.hid htr
 clear htr
 obtain ⟨s0, s1, sf⟩ := cells2 HT4.out
 by_cases hs : 0 < x.d.succs
 rotate_left
 ·have hsi : decide (x.d.succs > 0) = false := decide_eq_false hs
  have HS := Lib.hid (decide_eq_false hs)
  clear hs
  go_wp2_with fail
  refine (Contains_any x.ko x.d.traits x.kc commS (by have := HF.out.lt; omega) _ (HD.out.traits.below B1.out.1)).mono ?_
  rintro e w8 ⟨rfl, rfl⟩
  cases hcm : isIn x.d.traits commS
  ·have HCM := Lib.hid hcm
   clear hcm
   have HX := Lib.hid (show rightD x.d = true by unfold rightD; rw [HNM.out, HND.out, H1.out, H2.out, H3.out, H4.out, HSG.out, HTR.out]; rw [HCM.out, HS.out]; rfl)
   go_wp2_with fail
   refine bodyPost_ret (v := .tuple #[.agg #[.slice ai x.d.ins.length ci, .slice ao x.d.outs.length co], .bool true]) (results_cell_tmp Tryz.results83 rfl rfl (sigVar (set2_block T1.out))) rfl ?_
   exact ⟨below_set2 B1.out.1 (Nat.le_succ _), .inr ⟨HX.out, ai, ci, ao, co, rfl, RowIs.keeps HRI.out (above_set2 HM.out (by have := HM.out; omega)), RowIs.keeps HRO.out (above_set2 HM.out (by have := HM.out; omega))⟩⟩
  ·have HCM := Lib.hid hcm
   clear hcm
   go_wp2_with fail
   refine (exch_any' ai x.d.ins ci (by have := (rightD_long HSG.out).1; omega) _ (RowIs.keeps HRI.out above_to)).mono ?_
   rintro e w9 ⟨rfl, hb⟩
   replace HT4 := Lib.hid ((hb.block _ (lt_of_block HT4.out)).trans HT4.out)
   replace HRI := Lib.hid (RowIs.keeps HRI.out (above_below hb))
   replace HRO := Lib.hid (RowIs.keeps HRO.out (above_below hb))
   clear c0 c1 c2 c3 c4 c5 c6 cf g0 g1 gf
   clear s0 s1 sf
   replace T0 := Lib.hid ((hb.block _ (lt_of_block T0.out)).trans T0.out)
   replace T1 := Lib.hid ((hb.block _ (lt_of_block T1.out)).trans T1.out)
   replace B1 := Lib.hid (show Below w.heap.size w _ ∧ _ from ⟨B1.out.1.trans (hb.mono B1.out.1.size), Nat.lt_of_lt_of_le B1.out.2 hb.size⟩)
   clear hb
   obtain ⟨c0, c1, c2, c3, c4, c5, c6, cf⟩ := dcells7 T0.out
   obtain ⟨g0, g1, gf⟩ := cells2 T1.out
   obtain ⟨s0, s1, sf⟩ := cells2 HT4.out
   cases hex : exchL (x.d.ins.map ruleOf)
   ·have HEX := Lib.hid hex
    have HN := Lib.hid (show rightD x.d = false by unfold rightD; rw [HCM.out, hex]; simp)
    clear hex
    go_wp2_with fail
    refine bodyPost_ret (v := .tuple #[.agg #[.slice none 0 0, .slice none 0 0], .bool false]) (results_cell_tmp Tryz.results83 rfl rfl (sigVar (set2_block T1.out))) rfl ?_
    exact ⟨below_set2 B1.out.1 (Nat.le_succ _), .inl ⟨HN.out, rfl⟩⟩
   ·have HEX := Lib.hid hex
    clear hex
    have HX := Lib.hid (show rightD x.d = true by unfold rightD; rw [HNM.out, HND.out, H1.out, H2.out, H3.out, H4.out, HSG.out, HTR.out]; rw [HEX.out, HS.out]; simp)
    go_wp2_with fail
    refine bodyPost_ret (v := .tuple #[.agg #[.slice ai x.d.ins.length ci, .slice ao x.d.outs.length co], .bool true]) (results_cell_tmp Tryz.results83 rfl rfl (sigVar (set2_block T1.out))) rfl ?_
    exact ⟨below_set2 B1.out.1 (Nat.le_succ _), .inr ⟨HX.out, ai, ci, ao, co, rfl, RowIs.keeps HRI.out (above_set2 HM.out (by have := HM.out; omega)), RowIs.keeps HRO.out (above_set2 HM.out (by have := HM.out; omega))⟩⟩
 have hsi : decide (x.d.succs > 0) = true := decide_eq_true hs
 have HS := Lib.hid (decide_eq_true hs)
 clear hs
 go_wp2_with fail
 refine (Contains_any x.ko x.d.traits x.kc endS (by have := HF.out.lt; omega) _ (HD.out.traits.below B1.out.1)).mono ?_
 rintro e w7 ⟨rfl, rfl⟩
 cases hen : isIn x.d.traits endS
 ·have HEN := Lib.hid hen
  have HN := Lib.hid (show rightD x.d = false by unfold rightD; rw [hen, HS.out]; simp)
  clear hen
  go_wp2_with fail
  refine bodyPost_ret (v := .tuple #[.agg #[.slice none 0 0, .slice none 0 0], .bool false]) (results_cell_tmp Tryz.results83 rfl rfl (sigVar (set2_block T1.out))) rfl ?_
  exact ⟨below_set2 B1.out.1 (Nat.le_succ _), .inl ⟨HN.out, rfl⟩⟩
 have HEN := Lib.hid hen
 clear hen
 go_wp2_with fail
 refine (Contains_any x.ko x.d.traits x.kc commS (by have := HF.out.lt; omega) _ (HD.out.traits.below B1.out.1)).mono ?_
 rintro e w8 ⟨rfl, rfl⟩
 cases hcm : isIn x.d.traits commS
 ·have HCM := Lib.hid hcm
  clear hcm
  have HX := Lib.hid (show rightD x.d = true by unfold rightD; rw [HNM.out, HND.out, H1.out, H2.out, H3.out, H4.out, HSG.out, HTR.out]; rw [HCM.out, HEN.out, Bool.or_true]; rfl)
  go_wp2_with fail
  refine bodyPost_ret (v := .tuple #[.agg #[.slice ai x.d.ins.length ci, .slice ao x.d.outs.length co], .bool true]) (results_cell_tmp Tryz.results83 rfl rfl (sigVar (set2_block T1.out))) rfl ?_
  exact ⟨below_set2 B1.out.1 (Nat.le_succ _), .inr ⟨HX.out, ai, ci, ao, co, rfl, RowIs.keeps HRI.out (above_set2 HM.out (by have := HM.out; omega)), RowIs.keeps HRO.out (above_set2 HM.out (by have := HM.out; omega))⟩⟩
 ·have HCM := Lib.hid hcm
  clear hcm
  go_wp2_with fail
  refine (exch_any' ai x.d.ins ci (by have := (rightD_long HSG.out).1; omega) _ (RowIs.keeps HRI.out above_to)).mono ?_
  rintro e w9 ⟨rfl, hb⟩
  replace HT4 := Lib.hid ((hb.block _ (lt_of_block HT4.out)).trans HT4.out)
  replace HRI := Lib.hid (RowIs.keeps HRI.out (above_below hb))
  replace HRO := Lib.hid (RowIs.keeps HRO.out (above_below hb))
  clear c0 c1 c2 c3 c4 c5 c6 cf g0 g1 gf
  clear s0 s1 sf
  replace T0 := Lib.hid ((hb.block _ (lt_of_block T0.out)).trans T0.out)
  replace T1 := Lib.hid ((hb.block _ (lt_of_block T1.out)).trans T1.out)
  replace B1 := Lib.hid (show Below w.heap.size w _ ∧ _ from ⟨B1.out.1.trans (hb.mono B1.out.1.size), Nat.lt_of_lt_of_le B1.out.2 hb.size⟩)
  clear hb
  obtain ⟨c0, c1, c2, c3, c4, c5, c6, cf⟩ := dcells7 T0.out
  obtain ⟨g0, g1, gf⟩ := cells2 T1.out
  obtain ⟨s0, s1, sf⟩ := cells2 HT4.out
  cases hex : exchL (x.d.ins.map ruleOf)
  ·have HEX := Lib.hid hex
   have HN := Lib.hid (show rightD x.d = false by unfold rightD; rw [HCM.out, hex]; simp)
   clear hex
   go_wp2_with fail
   refine bodyPost_ret (v := .tuple #[.agg #[.slice none 0 0, .slice none 0 0], .bool false]) (results_cell_tmp Tryz.results83 rfl rfl (sigVar (set2_block T1.out))) rfl ?_
   exact ⟨below_set2 B1.out.1 (Nat.le_succ _), .inl ⟨HN.out, rfl⟩⟩
  ·have HEX := Lib.hid hex
   clear hex
   have HX := Lib.hid (show rightD x.d = true by unfold rightD; rw [HNM.out, HND.out, H1.out, H2.out, H3.out, H4.out, HSG.out, HTR.out]; rw [HEX.out, HEN.out, Bool.or_true]; simp)
   go_wp2_with fail
   refine bodyPost_ret (v := .tuple #[.agg #[.slice ai x.d.ins.length ci, .slice ao x.d.outs.length co], .bool true]) (results_cell_tmp Tryz.results83 rfl rfl (sigVar (set2_block T1.out))) rfl ?_
   exact ⟨below_set2 B1.out.1 (Nat.le_succ _), .inr ⟨HX.out, ai, ci, ao, co, rfl, RowIs.keeps HRI.out (above_set2 HM.out (by have := HM.out; omega)), RowIs.keeps HRO.out (above_set2 HM.out (by have := HM.out; omega))⟩⟩
set_option maxHeartbeats 4000000 in
set_option maxRecDepth 100000 in
theorem dRight_any (x : DEl) (hf : DefFit x.d) (w : World) (hd : DefOK w x) (hE : Env w) :
  Calls Tryz.prog 58 #[x.val] w fun e w' => e = .returned (.bool (rightD x.d)) ∧ Below w.heap.size w w' := by
 have T0 := Lib.hid (heap_alloc_new w (.cells #[.string x.d.name, .slice x.io x.d.ins.length x.ic, .slice x.oo x.d.outs.length x.oc, .slice x.no x.d.needs.length x.nc, .int .i64 x.d.regions, .int .i64 x.d.succs, .slice x.ko x.d.traits.length x.kc] 36))
 have B1 := Lib.hid (new_below w (.cells #[.string x.d.name, .slice x.io x.d.ins.length x.ic, .slice x.oo x.d.outs.length x.oc, .slice x.no x.d.needs.length x.nc, .int .i64 x.d.regions, .int .i64 x.d.succs, .slice x.ko x.d.traits.length x.kc] 36))
 have HSG := Lib.hid (dDescribed_any x hf _ (hd.below B1.out) (hE.below B1.out))
 clear hf hd hE
 unfold DEl.val at HSG ⊢
 go_enter Tryz.func58, Tryz.ntmps58
 obtain ⟨c0, c1, c2, c3, c4, c5, c6, cf⟩ := dcells7 T0.out
 go_wp2_with fail
 refine HSG.out.mono ?_
 rintro e w4 ⟨hb, (⟨hsg, rfl⟩ | ⟨hsg, ai, ci, ao, co, rfl, hri, hro⟩)⟩
 ·have HX := Lib.hid hsg
  have HB := Lib.hid (B1.out.trans (hb.mono B1.out.size))
  clear hsg hb HSG c0 c1 c2 c3 c4 c5 c6 cf
  go_wp2_with fail
  go_ret
  first | exact ⟨by rw [HX.out]; rfl, HB.out⟩ | exact ⟨by rw [HX.out]; rfl, HB.out.alloc HB.out.size _⟩
 ·have HX := Lib.hid hsg
  have HB := Lib.hid (B1.out.trans (hb.mono B1.out.size))
  clear hsg hb HSG c0 c1 c2 c3 c4 c5 c6 cf hri hro
  go_wp2_with fail
  go_ret
  first | exact ⟨by rw [HX.out]; rfl, HB.out⟩ | exact ⟨by rw [HX.out]; rfl, HB.out.alloc HB.out.size _⟩
end Go.Proofs.YtgimdkgjfenafaaGreatDoor
