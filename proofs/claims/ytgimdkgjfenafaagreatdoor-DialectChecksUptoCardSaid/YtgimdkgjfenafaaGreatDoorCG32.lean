import Derived.Test.YtgimdkgjfenafaaGreatDoorCG31
namespace Go.Proofs.YtgimdkgjfenafaaGreatDoor
open Go.RowKit
theorem rightD_signed {d : DefD} (h : rightD d = true) : signedL d = true := by
 unfold rightD at h
 simp only [Bool.and_eq_true] at h
 exact h.1.1.1.2
theorem spread_len {l : List ByteArray} : ∀ (rs : List Rule) (F : Bnd) (each e : List Rule), spreadL l rs F each = some e → e.length = l.length := by
 intro rs
 induction rs with
 | nil =>
  intro F each e h
  rw [spreadL] at h
  split at h
  ·cases h; assumption
  ·cases h
 | cons r rs ih =>
  intro F each e h
  rw [spreadL] at h
  split at h
  ·exact ih _ _ _ h
  ·cases h
def OpenQ (d : DefD) (ok : Bool) (w : World) (e : Ending) (w' : World) : Prop := Below w.heap.size w w' ∧
 ((rightD d = false ∧ e = .returned (.tuple #[.agg #[.slice none 0 0, .slice none 0 0], .int .i64 50])) ∨
  (rightD d = true ∧ ok = false ∧ e = .returned (.tuple #[.agg #[.slice none 0 0, .slice none 0 0], .int .i64 10])) ∨
  (rightD d = true ∧ ok = true ∧ ∃ ai ci ao co, e = .returned (.tuple #[.agg #[.slice ai d.ins.length ci, .slice ao d.outs.length co], .int .i64 0]) ∧ RulesAt (above w.heap.size w') ai (d.ins.map ruleOf) ∧ RulesAt (above w.heap.size w') ao (d.outs.map ruleOf)))
theorem opened2_any (x : DEl) (hf : DefFit x.d) (bo ia oa : Option Addr) (ins outs : List ByteArray) (ic oc : Nat) (h1 : ins.length ≤ 1048576) (h2 : outs.length ≤ 1048576) (w : World) (hd : DefOK w x) (hr : RowIs w bo 2 [.slice ia ins.length ic, .slice oa outs.length oc]) (hI : StrsAt w ia ins) (hO : StrsAt w oa outs) (hE : Env w) :
  Calls Tryz.prog 47 #[x.val, .slice bo 2 2] w (OpenQ x.d (ins.all isT && outs.all isT) w) := by
 refine (opened_any x hf bo [⟨ia, ins, ic⟩, ⟨oa, outs, oc⟩] 2 (by simp) ?_ w hd ⟨hr, ?_⟩ hE).mono ?_
 ·intro y hy
  simp only [List.mem_cons, List.not_mem_nil, or_false] at hy
  rcases hy with rfl | rfl
  ·show ins.length ≤ _; omega
  ·show outs.length ≤ _; omega
 ·intro y hy
  simp only [List.mem_cons, List.not_mem_nil, or_false] at hy
  rcases hy with rfl | rfl
  ·exact hI
  ·exact hO
 ·rintro e w' ⟨hb, h⟩
  refine ⟨hb, ?_⟩
  have ea : ([⟨ia, ins, ic⟩, ⟨oa, outs, oc⟩] : List LEl).all (fun x => x.ss.all isT) = (ins.all isT && outs.all isT) := by simp
  rw [ea] at h
  exact h
theorem opened1_any (x : DEl) (hf : DefFit x.d) (bo ia : Option Addr) (ins : List ByteArray) (ic : Nat) (h1 : ins.length ≤ 1048576) (w : World) (hd : DefOK w x) (hr : RowIs w bo 1 [.slice ia ins.length ic]) (hI : StrsAt w ia ins) (hE : Env w) :
  Calls Tryz.prog 47 #[x.val, .slice bo 1 1] w (OpenQ x.d (ins.all isT) w) := by
 refine (opened_any x hf bo [⟨ia, ins, ic⟩] 1 (by simp) ?_ w hd ⟨hr, ?_⟩ hE).mono ?_
 ·intro y hy
  simp only [List.mem_cons, List.not_mem_nil, or_false] at hy
  subst hy
  show ins.length ≤ _; omega
 ·intro y hy
  simp only [List.mem_cons, List.not_mem_nil, or_false] at hy
  subst hy
  exact hI
 ·rintro e w' ⟨hb, h⟩
  refine ⟨hb, ?_⟩
  have ea : ([⟨ia, ins, ic⟩] : List LEl).all (fun x => x.ss.all isT) = ins.all isT := by simp
  rw [ea] at h
  exact h
def SpreadQ (rs : List Rule) (l : List ByteArray) (w : World) (e : Ending) (w' : World) : Prop := ∃ (v : Value) (ok : Bool), e = .returned (.tuple #[v, .bool ok]) ∧ Below w.heap.size w w' ∧
 (ok = false → spreadL l rs noB [] = none) ∧ (ok = true → ∃ (each : List Rule) (ao : Option Addr) (c : Nat), spreadL l rs noB [] = some each ∧ v = .slice ao each.length c ∧ RulesAt w' ao each)
theorem spread_q (ra : Option Addr) (ss : List ByteArray) (rc : Nat) (la : Option Addr) (l : List ByteArray) (lc : Nat) (hr : ss.length ≤ 1000) (hl : l.length ≤ 1048576) (hz : ∀ s ∈ l, s.size ≤ maxLen) (w : World) (hR : RulesAt w ra (ss.map ruleOf)) (hL : StrsAt w la l) (hE : Env w) :
  Calls Tryz.prog 48 #[.slice ra ss.length rc, .slice la l.length lc] w (SpreadQ (ss.map ruleOf) l w) := by
 have h := spread_any ra (ss.map ruleOf) rc la l lc (by rw [List.length_map]; exact hr) hl hz w hR hL hE
 rw [List.length_map] at h
 refine h.mono ?_
 rintro e w' ⟨hb, (⟨hn, v, rfl⟩ | ⟨each, ao, c, hs, rfl, hra⟩)⟩
 ·exact ⟨v, false, rfl, hb, fun _ => hn, fun h => by cases h⟩
 ·exact ⟨_, true, rfl, hb, (fun h => by cases h), fun _ => ⟨each, ao, c, hs, rfl, RowIs.keeps hra above_to⟩⟩
def matchE (d : DefD) (ins outs : List ByteArray) : Int := if rightD d = true then (if (ins.all isT && outs.all isT) = true then matchL d ins outs else 10) else 50
set_option maxHeartbeats 16000000 in
set_option maxRecDepth 100000 in
theorem Match_any (x : DEl) (hf : DefFit x.d) (ia oa : Option Addr) (ins outs : List ByteArray) (ic oc : Nat) (h1 : ins.length ≤ 1048576) (h2 : outs.length ≤ 1048576) (z1 : ∀ s ∈ ins, s.size ≤ maxLen) (z2 : ∀ s ∈ outs, s.size ≤ maxLen) (w : World) (hd : DefOK w x) (hI : StrsAt w ia ins) (hO : StrsAt w oa outs) (hE : Env w) :
  Calls Tryz.prog 22 #[x.val, .slice ia ins.length ic, .slice oa outs.length oc] w fun e w' => e = .returned (.int .i64 (matchE x.d ins outs)) ∧ Below w.heap.size w w' := by
 obtain ⟨W1, hW1⟩ : ∃ W1, W1 = (w.alloc (.cells #[.string x.d.name, .slice x.io x.d.ins.length x.ic, .slice x.oo x.d.outs.length x.oc, .slice x.no x.d.needs.length x.nc, .int .i64 x.d.regions, .int .i64 x.d.succs, .slice x.ko x.d.traits.length x.kc] 36)).alloc (.cells #[.slice ia ins.length ic, .slice oa outs.length oc] 27) := ⟨_, rfl⟩
 have B1 : Hid (Below w.heap.size w W1) := by
  show Below _ _ _
  rw [hW1]
  exact bel_two _ _ _
 have T0 := Lib.hid (heap_alloc_new w (.cells #[.string x.d.name, .slice x.io x.d.ins.length x.ic, .slice x.oo x.d.outs.length x.oc, .slice x.no x.d.needs.length x.nc, .int .i64 x.d.regions, .int .i64 x.d.succs, .slice x.ko x.d.traits.length x.kc] 36))
 have R1 : RowIs W1 (some ⟨w.heap.size + 1, 0, none⟩) 2 [.slice ia ins.length ic, .slice oa outs.length oc] := by rw [hW1]; exact row_is (snd_block _ _ _)
 have HSG := Lib.hid (opened2_any x hf (some ⟨w.heap.size + 1, 0, none⟩) ia oa ins outs ic oc h1 h2 W1 (hd.below B1.out) R1 (hI.below B1.out) (hO.below B1.out) (hE.below B1.out))
 have HI := Lib.hid hI
 have HO := Lib.hid hO
 have HE := Lib.hid hE
 have HZ1 := Lib.hid z1
 have HZ2 := Lib.hid z2
 have HN1 := Lib.hid h1
 have HN2 := Lib.hid h2
 have hmm := @run_makeMap Tryz.prog
 clear hf hd hI hO hE z1 z2 h1 h2 R1
 unfold DEl.val at HSG ⊢
 go_enter Tryz.func22, Tryz.ntmps22
 obtain ⟨c0, c1, c2, c3, c4, c5, c6, cf⟩ := dcells7 T0.out
 go_wp2_with fail
 rw [← hW1]
 clear hW1 c0 c1 c2 c3 c4 c5 c6 cf T0
 refine HSG.out.mono ?_
 rintro e w4 ⟨hb, (⟨hsg, rfl⟩ | ⟨hsg, hok, rfl⟩ | ⟨hsg, hok, ai, ci, ao, co, rfl, hri, hro⟩)⟩
 ·have HX := Lib.hid (show matchE x.d ins outs = 50 by unfold matchE; rw [hsg]; rfl)
  have B5 := Lib.hid ((B1.out.trans (hb.mono B1.out.size)).trans ((new_below w4 (.cells #[.slice none 0 0, .slice none 0 0] 107)).mono (Nat.le_trans B1.out.size hb.size)))
  clear hsg hb HSG
  go_wp2_with fail
  go_ret
  exact ⟨by rw [HX.out]; rfl, B5.out⟩
 ·have HX := Lib.hid (show matchE x.d ins outs = 10 by unfold matchE; rw [hsg, hok]; rfl)
  have B5 := Lib.hid ((B1.out.trans (hb.mono B1.out.size)).trans ((new_below w4 (.cells #[.slice none 0 0, .slice none 0 0] 107)).mono (Nat.le_trans B1.out.size hb.size)))
  clear hsg hok hb HSG
  go_wp2_with fail
  go_ret
  exact ⟨by rw [HX.out]; rfl, B5.out⟩
 have HX := Lib.hid (show matchE x.d ins outs = matchL x.d ins outs by unfold matchE; rw [hsg, hok]; rfl)
 have HL10 := Lib.hid (rightD_long (rightD_signed hsg))
 have HT := Lib.hid (heap_alloc_new w4 (.cells #[.slice ai x.d.ins.length ci, .slice ao x.d.outs.length co] 107))
 have HNB := new_below w4 (.cells #[.slice ai x.d.ins.length ci, .slice ao x.d.outs.length co] 107)
 have B5 := Lib.hid ((B1.out.trans (hb.mono B1.out.size)).trans (HNB.mono (Nat.le_trans B1.out.size hb.size)))
 have HR := Lib.hid (show RulesAt (w4.alloc (.cells #[.slice ai x.d.ins.length ci, .slice ao x.d.outs.length co] 107)) ai (x.d.ins.map ruleOf) from RowIs.below (RowIs.keeps hri above_to) HNB)
 have HS := Lib.hid (show RulesAt (w4.alloc (.cells #[.slice ai x.d.ins.length ci, .slice ao x.d.outs.length co] 107)) ao (x.d.outs.map ruleOf) from RowIs.below (RowIs.keeps hro above_to) HNB)
 clear hsg hok hb HSG hri hro HNB B1
 go_upto_region 4 with fail
 generalize w4.alloc (.cells #[.slice ai x.d.ins.length ci, .slice ao x.d.outs.length co] 107) = W5 at HT B5 HR HS ⊢
 generalize w4.heap.size = D at HT ⊢
 obtain ⟨s0, s1, sf⟩ := cells2 HT.out
 go_wp2_with fail
 refine (spread_q ai x.d.ins ci ia ins ic (by have := HL10.out.1; omega) HN1.out HZ1.out W5 HR.out (HI.out.below B5.out) (HE.out.below B5.out)).mono ?_
 rintro e w6 ⟨v1, ok1, rfl, hb, hno, hyes⟩
 have HNO1 := Lib.hid hno
 have HYE1 := Lib.hid hyes
 have HT6 := Lib.hid ((hb.block _ (lt_of_block HT.out)).trans HT.out)
 have B6 := Lib.hid (B5.out.trans (hb.mono B5.out.size))
 have HS6 := Lib.hid (RowIs.below HS.out hb)
 clear hno hyes hb s0 s1 sf HT B5 HR HS
 obtain ⟨s0, s1, sf⟩ := cells2 HT6.out
 go_wp2_with fail
 refine (spread_q ao x.d.outs co oa outs oc (by have := HL10.out.2; omega) HN2.out HZ2.out w6 HS6.out (HO.out.below B6.out) (HE.out.below B6.out)).mono ?_
 rintro e w7 ⟨v2, ok2, rfl, hb, hno, hyes⟩
 have HNO2 := Lib.hid hno
 have HYE2 := Lib.hid hyes
 have B7 := Lib.hid (B6.out.trans (hb.mono B6.out.size))
 have K7 := Lib.hid hb
 clear hno hyes hb s0 s1 sf HT6 HS6
 cases ok1
 ·have HM := Lib.hid (show matchL x.d ins outs = 61 by unfold matchL; rw [HNO1.out rfl])
  go_wp2_with fail
  go_ret
  exact ⟨by rw [HX.out, HM.out]; rfl, B7.out⟩
 cases ok2
 ·have HM := Lib.hid (show matchL x.d ins outs = 61 by unfold matchL; rw [HNO2.out rfl]; cases spreadL ins (x.d.ins.map ruleOf) noB [] <;> rfl)
  go_wp2_with fail
  go_ret
  exact ⟨by rw [HX.out, HM.out]; rfl, B7.out⟩
 obtain ⟨ea, ra, rc, hs1, rfl, hr1⟩ := HYE1.out rfl
 obtain ⟨eb, rb, rd, hs2, rfl, hr2⟩ := HYE2.out rfl
 have HML := Lib.hid (show matchL x.d ins outs = (match fitL ea ins noB with | none => 62 | some F => if (fitL eb outs F).isSome then 0 else 62) by unfold matchL; rw [hs1, hs2]; rfl)
 have HLA := Lib.hid (spread_len _ _ _ _ hs1)
 have HLB := Lib.hid (spread_len _ _ _ _ hs2)
 have HM0 := Lib.hid (MapS.made 21 9 .i32 w7)
 have B8 := Lib.hid (B7.out.trans ((new_below w7 (.map #[] 0)).mono B7.out.size))
 have HRA := Lib.hid (show RulesAt (w7.alloc (.map #[] 0)) ra ea from RowIs.below (RowIs.below hr1 K7.out) (new_below _ _))
 have HRB := Lib.hid (show RulesAt (w7.alloc (.map #[] 0)) rb eb from RowIs.below hr2 (new_below _ _))
 have HMB := Lib.hid B7.out.size
 clear hs1 hs2 hr1 hr2 HNO1 HYE1 HNO2 HYE2 K7
 go_upto_region 9 with fail
 generalize w7.alloc (.map #[] 0) = W8 at HM0 B8 HRA HRB ⊢
 generalize w7.heap.size = mb at HM0 HMB ⊢
 go_wp2_with fail
 refine (vFit_any ra ea rc ia ins ic HLA.out HN1.out HZ1.out mb 0 (by decide) noB w W8 HE.out B8.out HMB.out HRA.out (HI.out.below B8.out) HM0.out).mono ?_
 rintro e w9 ⟨hb, hg, (⟨hn, rfl⟩ | ⟨F, hn, rfl, hm⟩)⟩
 ·have B9 := Lib.hid hb
  have HM := Lib.hid (show matchL x.d ins outs = 62 by rw [HML.out, hn])
  clear hb hg hn
  go_wp2_with fail
  go_ret
  exact ⟨by rw [HX.out, HM.out]; rfl, B9.out⟩
 have B9 := Lib.hid hb
 have HMF := Lib.hid (show matchL x.d ins outs = if (fitL eb outs F).isSome then 0 else 62 by rw [HML.out, hn])
 have HM9 := Lib.hid hm
 obtain ⟨ob, ho1, ho2⟩ := MapS.obj HM0.out
 have HRB9 := Lib.hid (show RulesAt w9 rb eb from RowIs.keeps HRB.out (grown_keeps hg ho1 ho2))
 clear hb hg hn hm ho1 ho2
 go_wp2_with fail
 refine (vFit_any rb eb rd oa outs oc HLB.out HN2.out HZ2.out mb (0 + ea.length) (by have := HLA.out; have := HN1.out; omega) F w w9 HE.out B9.out HMB.out HRB9.out (HO.out.below B9.out) HM9.out).mono ?_
 rintro e w10 ⟨hb, hg, (⟨hn, rfl⟩ | ⟨F2, hn, rfl, hm⟩)⟩
 ·have B10 := Lib.hid hb
  have HM := Lib.hid (show matchL x.d ins outs = 62 by rw [HMF.out, hn]; rfl)
  clear hb hg hn
  go_wp2_with fail
  go_ret
  exact ⟨by rw [HX.out, HM.out]; rfl, B10.out⟩
 ·have B10 := Lib.hid hb
  have HM := Lib.hid (show matchL x.d ins outs = 0 by rw [HMF.out, hn]; rfl)
  clear hb hg hn hm
  go_wp2_with fail
  go_ret
  exact ⟨by rw [HX.out, HM.out]; rfl, B10.out⟩
end Go.Proofs.YtgimdkgjfenafaaGreatDoor
namespace Go.Proofs.YtgimdkgjfenafaaGreatDoor
open Go.RowKit
def inferE (d : DefD) (ins : List ByteArray) : List ByteArray × Int := if rightD d = true then (if ins.all isT = true then inferL d ins else ([], 10)) else ([], 50)
def InferP (r : List ByteArray × Int) (w : World) (e : Ending) (w' : World) : Prop := Below w.heap.size w w' ∧ ∃ (ao : Option Addr) (c : Nat), e = .returned (.tuple #[.slice ao r.1.length c, .int .i64 r.2]) ∧ StrsAt (above w.heap.size w') ao r.1 ∧ r.1.length ≤ c
theorem infer_no {r : List ByteArray × Int} {z : Int} {w w' : World} (h : r = ([], z)) (hb : Below w.heap.size w w') : InferP r w (.returned (.tuple #[.slice none 0 0, .int .i64 z])) w' := by
 subst h
 exact ⟨hb, none, 0, rfl, .inl rfl, Nat.le_refl _⟩
theorem many_sort (r : Rule) : r.many = (r.sortP == 7) := by cases r <;> rfl
theorem strs_row {w : World} {ao : Option Addr} {ss : List ByteArray} (h : RowIs w ao ss.length (ss.map Value.string)) : StrsAt w ao ss := by
 rcases h with h | ⟨bk, o, rfl, hc⟩
 ·exact .inl (List.eq_nil_of_length_eq_zero h)
 ·refine .inr ⟨_, rfl, fun j hj => ?_⟩
  have := hc j (.string (ss[j]?.getD ByteArray.empty)) (by rw [List.getElem?_map, List.getElem?_eq_getElem hj]; rfl)
  rw [show (⟨bk, o, none⟩ : Addr).add j = ⟨bk, o + j, none⟩ by unfold Addr.add; split <;> simp_all]
  exact this
structure InS (rs : List Rule) (w9 : World) (F : Bnd) (j : Nat) (vo : Option Addr) (cp : Nat) (wr : World) : Prop where
 below : Below w9.heap.size w9 wr
 own : wr.ownsRow w9.heap.size 9 1 (.slice vo j cp) j (((rs.take j).map (onlyL F)).map Value.string)
 so : ∀ (k : Nat) (r : Rule), k < j → rs[k]? = some r → r.many = false
set_option maxHeartbeats 16000000 in
set_option maxRecDepth 100000 in
theorem Infer_any (x : DEl) (hf : DefFit x.d) (ia : Option Addr) (ins : List ByteArray) (ic : Nat) (h1 : ins.length ≤ 1048576) (z1 : ∀ s ∈ ins, s.size ≤ maxLen) (w : World) (hd : DefOK w x) (hI : StrsAt w ia ins) (hE : Env w) :
  Calls Tryz.prog 27 #[x.val, .slice ia ins.length ic] w (InferP (inferE x.d ins) w) := by
 obtain ⟨W1, hW1⟩ : ∃ W1, W1 = (w.alloc (.cells #[.string x.d.name, .slice x.io x.d.ins.length x.ic, .slice x.oo x.d.outs.length x.oc, .slice x.no x.d.needs.length x.nc, .int .i64 x.d.regions, .int .i64 x.d.succs, .slice x.ko x.d.traits.length x.kc] 36)).alloc (.cells #[.slice ia ins.length ic] 27) := ⟨_, rfl⟩
 have B1 : Hid (Below w.heap.size w W1) := by
  show Below _ _ _
  rw [hW1]
  exact bel_two _ _ _
 have T0 := Lib.hid (heap_alloc_new w (.cells #[.string x.d.name, .slice x.io x.d.ins.length x.ic, .slice x.oo x.d.outs.length x.oc, .slice x.no x.d.needs.length x.nc, .int .i64 x.d.regions, .int .i64 x.d.succs, .slice x.ko x.d.traits.length x.kc] 36))
 have R1 : RowIs W1 (some ⟨w.heap.size + 1, 0, none⟩) 1 [.slice ia ins.length ic] := by rw [hW1]; exact row_is (snd_block _ _ _)
 have HSG := Lib.hid (opened1_any x hf (some ⟨w.heap.size + 1, 0, none⟩) ia ins ic h1 W1 (hd.below B1.out) R1 (hI.below B1.out) (hE.below B1.out))
 have HI := Lib.hid hI
 have HE := Lib.hid hE
 have HZ1 := Lib.hid z1
 have HN1 := Lib.hid h1
 have hmm := @run_makeMap Tryz.prog
 clear hf hd hI hE z1 h1 R1
 unfold DEl.val at HSG ⊢
 go_enter Tryz.func27, Tryz.ntmps27
 obtain ⟨c0, c1, c2, c3, c4, c5, c6, cf⟩ := dcells7 T0.out
 go_wp2_with fail
 rw [← hW1]
 clear hW1 c0 c1 c2 c3 c4 c5 c6 cf T0
 refine HSG.out.mono ?_
 rintro e w4 ⟨hb, (⟨hsg, rfl⟩ | ⟨hsg, hok, rfl⟩ | ⟨hsg, hok, ai, ci, ao, co, rfl, hri, hro⟩)⟩
 ·have HX := Lib.hid (show inferE x.d ins = ([], 50) by unfold inferE; rw [hsg]; rfl)
  have B5 := Lib.hid ((B1.out.trans (hb.mono B1.out.size)).trans ((new_below w4 (.cells #[.slice none 0 0, .slice none 0 0] 107)).mono (Nat.le_trans B1.out.size hb.size)))
  clear hsg hb HSG
  go_wp2_with fail
  go_ret2
  exact infer_no HX.out B5.out
 ·have HX := Lib.hid (show inferE x.d ins = ([], 10) by unfold inferE; rw [hsg, hok]; rfl)
  have B5 := Lib.hid ((B1.out.trans (hb.mono B1.out.size)).trans ((new_below w4 (.cells #[.slice none 0 0, .slice none 0 0] 107)).mono (Nat.le_trans B1.out.size hb.size)))
  clear hsg hok hb HSG
  go_wp2_with fail
  go_ret2
  exact infer_no HX.out B5.out
 have HX := Lib.hid (show inferE x.d ins = inferL x.d ins by unfold inferE; rw [hsg, hok]; rfl)
 have HL10 := Lib.hid (rightD_long (rightD_signed hsg))
 have HT := Lib.hid (heap_alloc_new w4 (.cells #[.slice ai x.d.ins.length ci, .slice ao x.d.outs.length co] 107))
 have HNB := new_below w4 (.cells #[.slice ai x.d.ins.length ci, .slice ao x.d.outs.length co] 107)
 have B5 := Lib.hid ((B1.out.trans (hb.mono B1.out.size)).trans (HNB.mono (Nat.le_trans B1.out.size hb.size)))
 have HR := Lib.hid (show RulesAt (w4.alloc (.cells #[.slice ai x.d.ins.length ci, .slice ao x.d.outs.length co] 107)) ai (x.d.ins.map ruleOf) from RowIs.below (RowIs.keeps hri above_to) HNB)
 have HS := Lib.hid (show RulesAt (w4.alloc (.cells #[.slice ai x.d.ins.length ci, .slice ao x.d.outs.length co] 107)) ao (x.d.outs.map ruleOf) from RowIs.below (RowIs.keeps hro above_to) HNB)
 clear hsg hok hb HSG hri hro HNB B1
 go_upto_region 4 with fail
 generalize w4.alloc (.cells #[.slice ai x.d.ins.length ci, .slice ao x.d.outs.length co] 107) = W5 at HT B5 HR HS ⊢
 generalize w4.heap.size = D at HT ⊢
 obtain ⟨s0, s1, sf⟩ := cells2 HT.out
 go_wp2_with fail
 refine (spread_q ai x.d.ins ci ia ins ic (by have := HL10.out.1; omega) HN1.out HZ1.out W5 HR.out (HI.out.below B5.out) (HE.out.below B5.out)).mono ?_
 rintro e w6 ⟨v1, ok1, rfl, hb, hno, hyes⟩
 have HT6 := Lib.hid ((hb.block _ (lt_of_block HT.out)).trans HT.out)
 have B6 := Lib.hid (B5.out.trans (hb.mono B5.out.size))
 have HS6 := Lib.hid (RowIs.below HS.out hb)
 clear hb s0 s1 sf HT B5 HR HS
 cases ok1
 ·have HM := Lib.hid (show inferL x.d ins = ([], 61) by unfold inferL; rw [hno rfl])
  clear hno hyes
  go_wp2_with fail
  go_ret2
  exact infer_no (HX.out.trans HM.out) B6.out
 obtain ⟨ea, ra, rc, hs1, rfl, hr1⟩ := hyes rfl
 have HML := Lib.hid (show inferL x.d ins = (match fitL ea ins noB with | none => ([], 62) | some F => if (x.d.outs.map ruleOf).any Rule.many then ([], 1) else ((x.d.outs.map ruleOf).map (onlyL F), 0)) by unfold inferL; rw [hs1]; rfl)
 have HLA := Lib.hid (spread_len _ _ _ _ hs1)
 have HM0 := Lib.hid (MapS.made 21 9 .i32 w6)
 have B8 := Lib.hid (B6.out.trans ((new_below w6 (.map #[] 0)).mono B6.out.size))
 have HRA := Lib.hid (show RulesAt (w6.alloc (.map #[] 0)) ra ea from RowIs.below hr1 (new_below _ _))
 have HS8 := Lib.hid (show RulesAt (w6.alloc (.map #[] 0)) ao (x.d.outs.map ruleOf) from RowIs.below HS6.out (new_below _ _))
 have HT8 := Lib.hid (((new_below w6 (.map #[] 0)).block _ (lt_of_block HT6.out)).trans HT6.out)
 have HDM := Lib.hid (Nat.ne_of_lt (lt_of_block HT6.out))
 have HMB := Lib.hid B6.out.size
 clear hs1 hr1 hno hyes B6 HS6 HT6
 go_upto_region 8 with fail
 generalize w6.alloc (.map #[] 0) = W8 at HM0 B8 HRA HS8 HT8 ⊢
 generalize w6.heap.size = mb at HM0 HMB HDM ⊢
 go_wp2_with fail
 refine (vFit_any ra ea rc ia ins ic HLA.out HN1.out HZ1.out mb 0 (by decide) noB w W8 HE.out B8.out HMB.out HRA.out (HI.out.below B8.out) HM0.out).mono ?_
 rintro e w9 ⟨hb, hg, (⟨hn, rfl⟩ | ⟨F, hn, rfl, hm⟩)⟩
 ·have B9 := Lib.hid hb
  have HM := Lib.hid (show inferL x.d ins = ([], 62) by rw [HML.out, hn])
  clear hb hg hn
  go_wp2_with fail
  go_ret2
  exact infer_no (HX.out.trans HM.out) B9.out
 have B9 := Lib.hid hb
 have HMF := Lib.hid (show inferE x.d ins = if (x.d.outs.map ruleOf).any Rule.many then ([], 1) else ((x.d.outs.map ruleOf).map (onlyL F), 0) by rw [HX.out, HML.out, hn])
 have HM9 := Lib.hid hm
 obtain ⟨ob, ho1, ho2⟩ := MapS.obj HM0.out
 have HS9 := Lib.hid (show RulesAt w9 ao (x.d.outs.map ruleOf) from RowIs.keeps HS8.out (grown_keeps hg ho1 ho2))
 have HT9 := Lib.hid ((hg.block D (lt_of_block HT8.out) (fun e => HDM.out (Option.some.inj e))).trans HT8.out)
 have hoi : (x.d.outs.length : Int) ≤ 10 := by have := HL10.out.2; omega
 clear hb hg hn hm ho1 ho2 HX HML HM0 B8 HRA HS8 HT8
 obtain ⟨s0, s1, sf⟩ := cells2 HT9.out
 generalize h0 : (0 + ea.length) = cn at HM9
 clear h0
 go_wp2_with fail
 clear s0 s1 sf
 have HRL := Lib.hid (show (x.d.outs.map ruleOf).length = x.d.outs.length from List.length_map _)
 obtain ⟨rs, hrs⟩ : ∃ rs, rs = x.d.outs.map ruleOf := ⟨_, rfl⟩
 rw [← hrs] at HS9 HMF HRL
 clear hrs
 go_loopw [11, 42] (fun ov iv wr => ∃ (j : Nat) (vo : Option Addr) (cp : Nat), j ≤ x.d.outs.length ∧ ov = .slice vo j cp ∧ iv = .int .i64 j ∧ Hid (InS rs w9 F j vo cp wr)) (fun _ iv _ => x.d.outs.length - (intOf iv).toNat)
 case atStart => exact ⟨0, none, 0, Nat.zero_le _, rfl, rfl, Below.refl _ _, World.ownsRow_nil _ _ _ _, fun k r h => absurd h (Nat.not_lt_zero _)⟩
 case round =>
  obtain ⟨j, vo, cp, hj, rfl, rfl, HC⟩ := hrel
  have HBR := Lib.hid (B9.out.trans (HC.out.below.mono B9.out.size))
  by_cases hlt : j < x.d.outs.length
  rotate_left
  ·obtain rfl : j = x.d.outs.length := by omega
   have HA := Lib.hid (show rs.any Rule.many = false from List.any_eq_false.2 fun r hr => by
    obtain ⟨k, hk⟩ := List.getElem?_of_mem hr
    rw [HC.out.so k r (by have := (List.getElem?_eq_some_iff.1 hk).1; have := HRL.out; omega) hk]
    decide)
   have HR := Lib.hid (show inferE x.d ins = (rs.map (onlyL F), 0) by rw [HMF.out, HA.out]; rfl)
   clear hlt hj
   go_wp2_with fail
   go_ret2
   have h1 := row_own (own_above HC.out.own)
   rw [List.take_of_length_le (by rw [HRL.out]; exact Nat.le_refl _)] at h1
   rw [HR.out]
   exact ⟨HBR.out, vo, cp, by rw [List.length_map, HRL.out]; rfl, strs_row (by rw [List.length_map, HRL.out]; exact RowIs.keeps h1.1 (above_above B9.out.size)), by rw [List.length_map, HRL.out]; exact h1.2⟩
  have hz := List.getElem?_eq_getElem (show j < rs.length by rw [HRL.out]; exact hlt)
  generalize rs[j]'_ = r at hz
  obtain ⟨bk, o, rfl, hc⟩ := RowIs.at rule_len (RowIs.below HS9.out HC.out.below) hz
  have HG := Lib.hid hz
  have HLT := Lib.hid hlt
  have hlti : (j : Int) < (x.d.outs.length : Int) := by omega
  obtain ⟨p, hp⟩ : ∃ p, p = r.sortP := ⟨_, rfl⟩
  obtain ⟨q, hq⟩ : ∃ q, q = r.clsP := ⟨_, rfl⟩
  obtain ⟨v, hv⟩ : ∃ v, v = (r.v.toNat : Int) := ⟨_, rfl⟩
  obtain ⟨tx, htx⟩ : ∃ tx, tx = r.textP := ⟨_, rfl⟩
  have HCE := Lib.hid (show r.cells = [.int .i64 p, .int .i64 q, .int .i32 v, .string tx] by rw [hp, hq, hv, htx]; rfl)
  have HPV := Lib.hid (show r.pval = .agg #[.int .i64 p, .int .i64 q, .int .i32 v, .string tx] by rw [hp, hq, hv, htx]; rfl)
  have HMS := Lib.hid (show r.many = (p == 7) by rw [hp]; exact many_sort r)
  have q0 := hc 0 (.int .i64 p) (by rw [HCE.out]; rfl)
  have q1 := hc 1 (.int .i64 q) (by rw [HCE.out]; rfl)
  have q2 := hc 2 (.int .i32 v) (by rw [HCE.out]; rfl)
  have q3 := hc 3 (.string tx) (by rw [HCE.out]; rfl)
  rw [Nat.add_zero] at q0
  clear hz hlt hj hc hp hq hv htx
  have HTR := Lib.hid (heap_alloc_new wr (.cells #[.int .i64 p, .int .i64 q, .int .i32 v, .string tx] 125))
  have HNB := Lib.hid (new_below wr (.cells #[.int .i64 p, .int .i64 q, .int .i32 v, .string tx] 125))
  go_upto_region 14 with fail
  generalize wr.alloc (.cells #[.int .i64 p, .int .i64 q, .int .i32 v, .string tx] 125) = W3 at HTR HNB ⊢
  generalize wr.heap.size = E at HTR ⊢
  clear q0 q1 q2 q3
  have HB3 := Lib.hid (HBR.out.trans (HNB.out.mono HBR.out.size))
  have HN3 := Lib.hid (HC.out.below.trans (HNB.out.mono HC.out.below.size))
  have HM3 := Lib.hid (MapS.below HM9.out HN3.out)
  have HO3 := Lib.hid (ownsRow_below HC.out.own HNB.out)
  have HSO := Lib.hid HC.out.so
  clear HC HNB
  obtain ⟨c0, c1, c2, c3, cf⟩ := dcells4 HTR.out
  cases h7 : (p == 7)
  rotate_left
  ·have HR := Lib.hid (show inferE x.d ins = ([], 1) by rw [HMF.out, show rs.any Rule.many = true from List.any_eq_true.2 ⟨r, List.mem_of_getElem? HG.out, by rw [HMS.out]; exact h7⟩]; rfl)
   go_wp2_with fail
   go_ret2
   exact infer_no HR.out HB3.out
  have HNM := Lib.hid (show r.many = false by rw [HMS.out]; exact h7)
  have HCI := Lib.hid (vOnly_any r mb cn F W3 HM3.out (HE.out.below HB3.out))
  rw [HPV.out] at HCI
  obtain ⟨z, hz⟩ : ∃ z, z = onlyL F r := ⟨_, rfl⟩
  rw [← hz] at HCI
  have HZE := Lib.hid hz
  clear hz
  go_wp2_with fail
  refine HCI.out.mono ?_
  rintro e w4' ⟨rfl, hb⟩
  have HN4 := Lib.hid (HN3.out.trans (hb.mono HN3.out.size))
  have HOW := Lib.hid (ownsRow_below HO3.out hb)
  have HBZ := Lib.hid HN4.out.size
  have HNN := Lib.hid (show j ≤ 2000000 by have := HLT.out; have := HL10.out.2; omega)
  clear hb c0 c1 c2 c3 cf HCI h7
  go_wp2_with (at_builtin; refine wp_append_own rfl 27 9 1 Tryz.underlying27 info_string (by decide) _ _ rfl HOW.out HBZ.out HNN.out rfl rfl rfl rfl ?_; intro ao5 c5 w5 hown hbel hkp; have HO5 := Lib.hid hown; have HB5 := Lib.hid hbel; clear hown hbel hkp)
  go_roundw
  case rel => exact ⟨j + 1, ao5, c5, HLT.out, rfl, by go_num, HN4.out.trans HB5.out, by
    have e : ((rs.take (j + 1)).map (onlyL F)).map Value.string = ((rs.take j).map (onlyL F)).map Value.string ++ [.string z] := by rw [List.take_add_one, HG.out, HZE.out]; simp
    rw [e]
    exact HO5.out, fun k y hk hy => by
     rcases Nat.lt_or_ge k j with h | h
     ·exact HSO.out k y h hy
     ·obtain rfl : k = j := by omega
      rw [HG.out] at hy
      cases hy
      exact HNM.out⟩
  case measure => have := HLT.out; simp only [intOf]; omega
end Go.Proofs.YtgimdkgjfenafaaGreatDoor
