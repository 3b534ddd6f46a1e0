import Derived.Test.YtgimdkgjfenafaaGreatDoorCG29
import Derived.Test.YtgimdkgjfenafaaGreatDoorCG30
import Derived.Laws.MakeOwn
import Derived.Laws.CopyOwn
namespace Go.Proofs.YtgimdkgjfenafaaGreatDoor
open Go.RowKit
def isT (s : ByteArray) : Bool := (readR s.data.toList).isSome
def tyErr (s : ByteArray) : Int := if isT s = true then 0 else 10
theorem tyErr_no {s : ByteArray} (h : isT s = false) : tyErr s = 10 := by unfold tyErr; rw [h]; rfl
theorem tyErr_yes {s : ByteArray} (h : isT s = true) : tyErr s = 0 := by unfold tyErr; rw [h]; rfl
theorem Check_isT (s : ByteArray) (w : World) (hE : Env w) : Calls Tryz.prog 84 #[.string s] w fun e w' => e = .returned (.int .i64 (tyErr s)) ∧ Below w.heap.size w w' := by
 rcases ty_read s with ⟨h, hn⟩ | ⟨h, k, b, r, e0, e1, e2, el, hT⟩
 ·rw [tyErr_no h]; exact (Check_no hn w hE).mono fun e w' ⟨he, hb⟩ => ⟨he, hb⟩
 ·rw [tyErr_yes h]; exact (Check_yes hT w hE).mono fun e w' ⟨he, hb⟩ => ⟨he, hb⟩
structure LEl where
 ao : Option Addr
 ss : List ByteArray
 c : Nat
def LEl.cells (x : LEl) : List Value := [.slice x.ao x.ss.length x.c]
theorem lel_len (x : LEl) : x.cells.length = 1 := rfl
def ListsAt (w : World) (bo : Option Addr) (ls : List LEl) : Prop := RowIs w bo ls.length (ls.flatMap LEl.cells) ∧ ∀ x ∈ ls, StrsAt w x.ao x.ss
theorem ListsAt.below {w w' : World} {bo : Option Addr} {ls : List LEl} (h : ListsAt w bo ls) (hb : Below w.heap.size w w') : ListsAt w' bo ls := ⟨RowIs.below h.1 hb, fun x hx => (h.2 x hx).below hb⟩
def OpenP (d : DefD) (ls : List LEl) (w : World) (e : Ending) (w' : World) : Prop := Below w.heap.size w w' ∧
 ((rightD d = false ∧ e = .returned (.tuple #[.agg #[.slice none 0 0, .slice none 0 0], .int .i64 50])) ∨
  (rightD d = true ∧ (ls.all fun x => x.ss.all isT) = false ∧ e = .returned (.tuple #[.agg #[.slice none 0 0, .slice none 0 0], .int .i64 10])) ∨
  (rightD d = true ∧ (ls.all fun x => x.ss.all isT) = true ∧ ∃ ai ci ao co, e = .returned (.tuple #[.agg #[.slice ai d.ins.length ci, .slice ao d.outs.length co], .int .i64 0]) ∧ RulesAt (above w.heap.size w') ai (d.ins.map ruleOf) ∧ RulesAt (above w.heap.size w') ao (d.outs.map ruleOf)))
structure OpS (x : DEl) (ls : List LEl) (w : World) (D M : Nat) (ai : Option Addr) (ci : Nat) (ao : Option Addr) (co : Nat) (m : Nat) (wr : World) : Prop where
 below : Below w.heap.size w wr
 res : wr.heap[w.heap.size + 1]? = some (.cells #[.slice none 0 0, .slice none 0 0] 107 (0, 0))
 sig : wr.heap[D]? = some (.cells #[.slice ai x.d.ins.length ci, .slice ao x.d.outs.length co] 107 (0, 0))
 ins : RulesAt (above M wr) ai (x.d.ins.map ruleOf)
 outs : RulesAt (above M wr) ao (x.d.outs.map ruleOf)
 so : ∀ (j : Nat) (y : LEl), j < m → ls[j]? = some y → y.ss.all isT = true
theorem OpS.moved {x : DEl} {ls : List LEl} {w wr w' : World} {D M : Nat} {ai : Option Addr} {ci : Nat} {ao : Option Addr} {co m : Nat} (h : OpS x ls w D M ai ci ao co m wr) (hb : Below wr.heap.size wr w') : OpS x ls w D M ai ci ao co m w' :=
 ⟨h.below.trans (hb.mono h.below.size), (hb.block _ (lt_of_block h.res)).trans h.res, (hb.block _ (lt_of_block h.sig)).trans h.sig, RowIs.keeps h.ins (above_below hb), RowIs.keeps h.outs (above_below hb), h.so⟩
theorem OpS.next {x : DEl} {ls : List LEl} {w wr : World} {D M : Nat} {ai : Option Addr} {ci : Nat} {ao : Option Addr} {co m : Nat} (h : OpS x ls w D M ai ci ao co m wr) {y : LEl} (hg : ls[m]? = some y) (hy : y.ss.all isT = true) : OpS x ls w D M ai ci ao co (m + 1) wr :=
 ⟨h.below, h.res, h.sig, h.ins, h.outs, fun j z hj hz => by
  rcases Nat.lt_or_ge j m with h1 | h1
  ·exact h.so j z h1 hz
  ·obtain rfl : j = m := by omega
   rw [hg] at hz
   cases hz
   exact hy⟩
set_option maxHeartbeats 16000000 in
set_option maxRecDepth 100000 in
theorem opened_any (x : DEl) (hf : DefFit x.d) (bo : Option Addr) (ls : List LEl) (bc : Nat) (hn : ls.length ≤ 1000) (hl : ∀ y ∈ ls, y.ss.length ≤ 9223372036854775806) (w : World) (hd : DefOK w x) (hL : ListsAt w bo ls) (hE : Env w) :
  Calls Tryz.prog 47 #[x.val, .slice bo ls.length bc] w (OpenP x.d ls w) := by
 obtain ⟨W1, hW1⟩ : ∃ W1, W1 = (w.alloc (.cells #[.string x.d.name, .slice x.io x.d.ins.length x.ic, .slice x.oo x.d.outs.length x.oc, .slice x.no x.d.needs.length x.nc, .int .i64 x.d.regions, .int .i64 x.d.succs, .slice x.ko x.d.traits.length x.kc] 36)).alloc (.cells #[.slice none 0 0, .slice none 0 0] 107) := ⟨_, rfl⟩
 have T0 : Hid (W1.heap[w.heap.size]? = some (.cells #[.string x.d.name, .slice x.io x.d.ins.length x.ic, .slice x.oo x.d.outs.length x.oc, .slice x.no x.d.needs.length x.nc, .int .i64 x.d.regions, .int .i64 x.d.succs, .slice x.ko x.d.traits.length x.kc] 36 (0, 0))) := by show W1.heap[_]? = _; rw [hW1]; exact fst_block _ _ _
 have T1 : Hid (W1.heap[w.heap.size + 1]? = some (.cells #[.slice none 0 0, .slice none 0 0] 107 (0, 0))) := by show W1.heap[_]? = _; rw [hW1]; exact snd_block _ _ _
 have B1 : Hid (Below w.heap.size w W1 ∧ w.heap.size + 1 < W1.heap.size) := by
  show Below _ _ _ ∧ _
  rw [hW1]
  exact ⟨bel_two _ _ _, lt_of_block (snd_block _ _ _)⟩
 have HSG := Lib.hid (dDescribed_any x hf W1 (hd.below B1.out.1) (hE.below B1.out.1))
 have HL := Lib.hid hL
 have HE := Lib.hid hE
 have HLL := Lib.hid hl
 have hni : (ls.length : Int) ≤ 1000 := by omega
 clear hf hd hL hE hl hn
 unfold DEl.val at HSG ⊢
 go_enter Tryz.func47, Tryz.ntmps47
 go_upto_region 1 with fail
 rw [← hW1]
 clear hW1
 obtain ⟨c0, c1, c2, c3, c4, c5, c6, cf⟩ := dcells7 T0.out
 go_wp2_with fail
 refine HSG.out.mono ?_
 rintro e w4 ⟨hb, (⟨hsg, rfl⟩ | ⟨hsg, ai, ci, ao, co, rfl, hri, hro⟩)⟩
 ·have HX := Lib.hid hsg
  have T5 := Lib.hid ((((new_below w4 (.cells #[.slice none 0 0, .slice none 0 0] 107)).block _ (Nat.lt_of_lt_of_le (lt_of_block T1.out) hb.size)).trans (hb.block _ (lt_of_block T1.out))).trans T1.out)
  have B5 := Lib.hid ((B1.out.1.trans (hb.mono B1.out.1.size)).trans ((new_below w4 (.cells #[.slice none 0 0, .slice none 0 0] 107)).mono (Nat.le_trans B1.out.1.size hb.size)))
  clear hsg hb HSG c0 c1 c2 c3 c4 c5 c6 cf
  go_upto_region 2 with fail
  generalize w4.alloc (.cells #[.slice none 0 0, .slice none 0 0] 107) = W5 at T5 B5 ⊢
  obtain ⟨g0, g1, gf⟩ := cells2 T5.out
  go_wp2_with fail
  refine bodyPost_ret (v := .tuple #[.agg #[.slice none 0 0, .slice none 0 0], .int .i64 50]) (results_cell_tmp Tryz.results47 rfl rfl (sigVar (set2_block T5.out))) rfl ?_
  exact ⟨below_set2 B5.out (Nat.le_succ _), .inl ⟨HX.out, rfl⟩⟩
 have HX := Lib.hid hsg
 have HM := Lib.hid (show w.heap.size + 1 < W1.heap.size from B1.out.2)
 have HOS := Lib.hid (show OpS x ls w w4.heap.size W1.heap.size ai ci ao co 0 (w4.alloc (.cells #[.slice ai x.d.ins.length ci, .slice ao x.d.outs.length co] 107)) from
  ⟨(B1.out.1.trans (hb.mono B1.out.1.size)).trans ((new_below w4 _).mono (Nat.le_trans B1.out.1.size hb.size)), ((new_below w4 _).block _ (Nat.lt_of_lt_of_le (lt_of_block T1.out) hb.size)).trans ((hb.block _ (lt_of_block T1.out)).trans T1.out), heap_alloc_new w4 _, RowIs.keeps hri (above_below (new_below w4 _)), RowIs.keeps hro (above_below (new_below w4 _)), fun j y h => absurd h (Nat.not_lt_zero _)⟩)
 clear hsg hb HSG c0 c1 c2 c3 c4 c5 c6 cf hri hro T0 T1 B1
 go_upto_region 2 with fail
 generalize w4.alloc (.cells #[.slice ai x.d.ins.length ci, .slice ao x.d.outs.length co] 107) = W5 at HOS ⊢
 generalize w4.heap.size = D at HOS ⊢
 generalize W1.heap.size = M at HOS HM
 go_wp2_with fail
 go_loopw [22] (fun iv wr => ∃ m : Nat, m ≤ ls.length ∧ iv = .int .i64 m ∧ Hid (OpS x ls w D M ai ci ao co m wr)) (fun iv _ => ls.length - (intOf iv).toNat)
 case atStart => exact ⟨0, Nat.zero_le _, rfl, HOS.out⟩
 case round =>
  obtain ⟨m, hmm, rfl, HC⟩ := hrel
  obtain ⟨g0, g1, gf⟩ := cells2 HC.out.res
  obtain ⟨s0, s1, sf⟩ := cells2 HC.out.sig
  by_cases hlt : m < ls.length
  rotate_left
  ·have hge : ¬ (m : Int) < (ls.length : Int) := by omega
   have HA := Lib.hid (show (ls.all fun x => x.ss.all isT) = true from List.all_eq_true.2 fun y hy => by
    obtain ⟨j, hj⟩ := List.getElem?_of_mem hy
    exact HC.out.so j y (by have := (List.getElem?_eq_some_iff.1 hj).1; omega) hj)
   clear hlt hmm
   go_wp2_with fail
   refine bodyPost_ret (v := .tuple #[.agg #[.slice ai x.d.ins.length ci, .slice ao x.d.outs.length co], .int .i64 0]) (results_cell_tmp Tryz.results47 rfl rfl (sigVar (set2_block HC.out.res))) rfl ?_
   exact ⟨below_set2 HC.out.below (Nat.le_succ _), .inr (.inr ⟨HX.out, HA.out, ai, ci, ao, co, rfl, RowIs.keeps HC.out.ins (above_set2 HM.out (by have := HM.out; omega)), RowIs.keeps HC.out.outs (above_set2 HM.out (by have := HM.out; omega))⟩)⟩
  have hz := List.getElem?_eq_getElem hlt
  generalize ls[m]'hlt = y at hz
  obtain ⟨bk, o, rfl, hc⟩ := RowIs.at lel_len (RowIs.below HL.out.1 HC.out.below) hz
  have k0 := hc 0 _ rfl
  rw [Nat.mul_one, Nat.add_zero] at k0
  have HYM := Lib.hid (HL.out.2 y (List.mem_of_getElem? hz))
  have HYL := Lib.hid (HLL.out y (List.mem_of_getElem? hz))
  have hyi : (y.ss.length : Int) ≤ 9223372036854775806 := by have := HYL.out; omega
  have HG := Lib.hid hz
  have HLT := Lib.hid hlt
  have hlti : (m : Int) < (ls.length : Int) := by omega
  clear hz hlt hmm hc
  go_wp2_with fail
  clear k0 g0 g1 gf s0 s1 sf
  go_loopw [28] (fun iv wx => ∃ k : Nat, k ≤ y.ss.length ∧ iv = .int .i64 k ∧ Hid (OpS x ls w D M ai ci ao co m wx ∧ ∀ (j : Nat) (s : ByteArray), j < k → y.ss[j]? = some s → isT s = true)) (fun iv _ => y.ss.length - (intOf iv).toNat)
  case atStart => exact ⟨0, Nat.zero_le _, rfl, HC.out, fun j s h => absurd h (Nat.not_lt_zero _)⟩
  case round =>
   obtain ⟨k, hkk, rfl, HI⟩ := hrel
   by_cases hlk : k < y.ss.length
   rotate_left
   ·have hge : ¬ (k : Int) < (y.ss.length : Int) := by omega
    have HA := Lib.hid (show y.ss.all isT = true from List.all_eq_true.2 fun s hs => by
     obtain ⟨j, hj⟩ := List.getElem?_of_mem hs
     exact HI.out.2 j s (by have := (List.getElem?_eq_some_iff.1 hj).1; omega) hj)
    clear hlk hkk
    go_wp2_with fail
    go_roundw
    case rel => exact ⟨m + 1, HLT.out, by go_num, HI.out.1.next HG.out HA.out⟩
    case measure => have := HLT.out; simp only [intOf]; omega
   have hjs := List.getElem?_eq_getElem hlk
   generalize y.ss[k]'hlk = s at hjs
   obtain ⟨a, hya⟩ : ∃ a, y.ao = some a := by
    rcases HYM.out with h0 | ⟨a, h, _⟩
    ·rw [h0] at hjs; cases hjs
    ·exact ⟨a, h⟩
   have hcm := strs_at (by have := HYM.out.below HI.out.1.below; rw [hya] at this; exact this) hjs
   have HJ := Lib.hid hjs
   have HLK := Lib.hid hlk
   have hlki : (k : Int) < (y.ss.length : Int) := by omega
   clear hjs hlk hkk
   obtain ⟨g0, g1, gf⟩ := cells2 HI.out.1.res
   rw [hya]
   go_wp2_with fail
   refine (Check_isT s _ (HE.out.below HI.out.1.below)).mono ?_
   rintro e w6 ⟨rfl, hb⟩
   have HS6 := Lib.hid (HI.out.1.moved hb)
   clear hb hcm g0 g1 gf
   obtain ⟨g0, g1, gf⟩ := cells2 HS6.out.res
   cases hty : isT s
   ·rw [tyErr_no hty]
    have HA := Lib.hid (show (ls.all fun x => x.ss.all isT) = false from List.all_eq_false.2 ⟨y, List.mem_of_getElem? HG.out, by
     rw [Bool.not_eq_true]
     exact List.all_eq_false.2 ⟨s, List.mem_of_getElem? HJ.out, by rw [hty]; decide⟩⟩)
    clear hty
    go_wp2_with fail
    refine bodyPost_ret (v := .tuple #[.agg #[.slice none 0 0, .slice none 0 0], .int .i64 10]) (results_cell_tmp Tryz.results47 rfl rfl (sigVar (set2_block HS6.out.res))) rfl ?_
    exact ⟨below_set2 HS6.out.below (Nat.le_succ _), .inr (.inl ⟨HX.out, HA.out, rfl⟩)⟩
   ·rw [tyErr_yes hty]
    have HTY := Lib.hid hty
    clear hty
    go_wp2_with fail
    go_roundw
    case rel => exact ⟨k + 1, HLK.out, by go_num, HS6.out, fun j z hj hz => by
      rcases Nat.lt_or_ge j k with h | h
      ·exact HI.out.2 j z h hz
      ·obtain rfl : j = k := by omega
       rw [HJ.out] at hz
       cases hz
       exact HTY.out⟩
    case measure => have := HLK.out; simp only [intOf]; omega
end Go.Proofs.YtgimdkgjfenafaaGreatDoor
namespace Go.Proofs.YtgimdkgjfenafaaGreatDoor
open Go.RowKit
def nameB (s : ByteArray) : Bool := isNameR s.data.toList
def rightX (x : DiaD) : Bool := nameB x.name && decide (x.types.length ≤ 20) && decide (x.ops.length ≤ 60) && x.types.all nameB && x.ops.all rightD && risingL x.types && risingL (x.ops.map (·.name))
structure DiaFit (x : DiaD) : Prop where
 ops : ∀ d ∈ x.ops, DefFit d
 ly : x.types.length ≤ 9223372036854775806
 lp : x.ops.length ≤ 9223372036854775806
set_option maxHeartbeats 16000000 in
set_option maxRecDepth 100000 in
theorem isRightDialect_any (x : XEl) (hf : DiaFit x.d) (w : World) (hd : DiaOK w x) (hE : Env w) :
  Calls Tryz.prog 70 #[.agg #[.string x.name, .slice x.yo x.types.length x.yc, .slice x.po x.ops.length x.pc]] w fun e w' => e = .returned (.bool (rightX x.d)) ∧ Below w.heap.size w w' := by
 have T0 := Lib.hid (heap_alloc_new w (.cells #[.string x.name, .slice x.yo x.types.length x.yc, .slice x.po x.ops.length x.pc] 90))
 have B1 := Lib.hid (new_below w (.cells #[.string x.name, .slice x.yo x.types.length x.yc, .slice x.po x.ops.length x.pc] 90))
 have HF := Lib.hid hf
 have HD := Lib.hid hd
 have HE := Lib.hid hE
 have HXD := Lib.hid (show x.d.name = x.name ∧ x.d.types = x.types ∧ x.d.ops = x.ops.map (·.d) from ⟨rfl, rfl, rfl⟩)
 have hyi : (x.types.length : Int) ≤ 9223372036854775806 := by have h := hf.ly; have e : x.d.types = x.types := rfl; rw [e] at h; omega
 have hpi : (x.ops.length : Int) ≤ 9223372036854775806 := by have h := hf.lp; have e : x.d.ops = x.ops.map (·.d) := rfl; rw [e, List.length_map] at h; omega
 have HYI := Lib.hid hyi
 have HPI := Lib.hid hpi
 clear hf hd hE
 go_enter Tryz.func70, Tryz.ntmps70
 go_upto_region 1 with fail
 generalize w.alloc (.cells #[.string x.name, .slice x.yo x.types.length x.yc, .slice x.po x.ops.length x.pc] 90) = W1 at T0 B1 ⊢
 generalize hD : w.heap.size = D at T0 ⊢
 have HDE := Lib.hid hD
 clear hD
 obtain ⟨c0, c1, c2, cf⟩ := cells3 T0.out
 go_wp2_with fail
 refine (isName_any x.name _).mono ?_
 rintro e w2 ⟨rfl, hb⟩
 replace T0 := Lib.hid ((hb.block _ (lt_of_block T0.out)).trans T0.out)
 replace B1 := Lib.hid (B1.out.trans (hb.mono B1.out.size))
 clear hb c0 c1 c2 cf
 obtain ⟨c0, c1, c2, cf⟩ := cells3 T0.out
 cases hnm : isNameR x.name.data.toList
 ·have HX := Lib.hid (show rightX x.d = false by unfold rightX nameB; rw [HXD.out.1, hnm]; simp)
  clear hnm
  go_wp2_with fail
  go_ret
  exact ⟨by rw [HX.out]; rfl, by rw [HDE.out]; exact HDE.out ▸ B1.out⟩
 have HNM := Lib.hid hnm
 clear hnm
 by_cases h20 : x.types.length ≤ 20
 rotate_left
 ·have h20i : decide ((x.types.length : Int) > 20) = true := decide_eq_true (by omega)
  have HX := Lib.hid (show rightX x.d = false by unfold rightX; rw [HXD.out.2.1, decide_eq_false h20]; simp)
  clear h20
  go_wp2_with fail
  go_ret
  exact ⟨by rw [HX.out]; rfl, by rw [HDE.out]; exact HDE.out ▸ B1.out⟩
 have h20i : decide ((x.types.length : Int) > 20) = false := decide_eq_false (by omega)
 have H20 := Lib.hid h20
 clear h20
 by_cases h60 : x.ops.length ≤ 60
 rotate_left
 ·have h60i : decide ((x.ops.length : Int) > 60) = true := decide_eq_true (by omega)
  have HX := Lib.hid (show rightX x.d = false by unfold rightX; rw [HXD.out.2.2, List.length_map, decide_eq_false h60]; simp)
  clear h60
  go_wp2_with fail
  go_ret
  exact ⟨by rw [HX.out]; rfl, by rw [HDE.out]; exact HDE.out ▸ B1.out⟩
 have h60i : decide ((x.ops.length : Int) > 60) = false := decide_eq_false (by omega)
 have H60 := Lib.hid h60
 clear h60
 go_upto_region 3 with fail
 clear h20i h60i
 go_wp2_with fail
 clear c0 c1 c2 cf
 go_loopw [26] (fun iv wr => ∃ m : Nat, m ≤ x.types.length ∧ iv = .int .i64 m ∧ Hid (Below w2.heap.size w2 wr ∧ ∀ (j : Nat) (s : ByteArray), j < m → x.types[j]? = some s → nameB s = true)) (fun iv _ => x.types.length - (intOf iv).toNat)
 case atStart => exact ⟨0, Nat.zero_le _, rfl, Below.refl _ _, fun j s h => absurd h (Nat.not_lt_zero _)⟩
 case round =>
  obtain ⟨m, hmm, rfl, HL⟩ := hrel
  have HBR := Lib.hid (B1.out.trans (HL.out.1.mono B1.out.size))
  have HT := Lib.hid ((HL.out.1.block _ (lt_of_block T0.out)).trans T0.out)
  by_cases hlt : m < x.types.length
  ·have hjs := List.getElem?_eq_getElem hlt
   generalize x.types[m]'hlt = s at hjs
   obtain ⟨a, hya⟩ : ∃ a, x.yo = some a := by
    rcases HD.out.types with h0 | ⟨a, h, _⟩
    ·rw [h0] at hjs; cases hjs
    ·exact ⟨a, h⟩
   have hcm := strs_at (by have := HD.out.types.below HBR.out; rw [hya] at this; exact this) hjs
   have HJ := Lib.hid hjs
   have HLT := Lib.hid hlt
   have hlti : (m : Int) < (x.types.length : Int) := by omega
   clear hjs hlt hmm
   rw [hya]
   go_wp2_with fail
   refine (isName_any s _).mono ?_
   rintro e w3 ⟨rfl, hb⟩
   have HB3 := Lib.hid (HL.out.1.trans (hb.mono HL.out.1.size))
   have HBW := Lib.hid (HBR.out.trans (hb.mono HBR.out.size))
   clear hb hcm
   cases hns : isNameR s.data.toList
   ·have HX := Lib.hid (show rightX x.d = false by
     have e : x.types.all nameB = false := List.all_eq_false.2 ⟨s, List.mem_of_getElem? HJ.out, by unfold nameB; rw [hns]; decide⟩
     unfold rightX
     rw [HXD.out.2.1, e]
     simp)
    clear hns
    go_wp2_with fail
    go_ret
    exact ⟨by rw [HX.out]; rfl, by rw [HDE.out]; exact HDE.out ▸ HBW.out⟩
   ·have HNS := Lib.hid hns
    clear hns
    go_wp2_with fail
    go_roundw
    case rel => exact ⟨m + 1, HLT.out, by go_num, HB3.out, fun j y hj hy => by
      rcases Nat.lt_or_ge j m with h | h
      ·exact HL.out.2 j y h hy
      ·obtain rfl : j = m := by omega
       rw [HJ.out] at hy
       cases hy
       exact HNS.out⟩
    case measure => have := HLT.out; simp only [intOf]; omega
  have hge : ¬ (m : Int) < (x.types.length : Int) := by omega
  have HA := Lib.hid (show x.types.all nameB = true from List.all_eq_true.2 fun s hs => by
   obtain ⟨j, hj⟩ := List.getElem?_of_mem hs
   exact HL.out.2 j s (by have := (List.getElem?_eq_some_iff.1 hj).1; omega) hj)
  clear hlt hmm HL
  obtain ⟨c0, c1, c2, cf⟩ := cells3 HT.out
  go_wp2_with fail
  clear c0 c1 c2 cf hge
  go_loopw [37] (fun iv wx => ∃ m : Nat, m ≤ x.ops.length ∧ iv = .int .i64 m ∧ Hid (Below wr.heap.size wr wx ∧ ∀ (j : Nat) (s : DEl), j < m → x.ops[j]? = some s → rightD s.d = true)) (fun iv _ => x.ops.length - (intOf iv).toNat)
  case atStart => exact ⟨0, Nat.zero_le _, rfl, Below.refl _ _, fun j s h => absurd h (Nat.not_lt_zero _)⟩
  case round =>
   obtain ⟨k, hkk, rfl, HL⟩ := hrel
   have HBX := Lib.hid (HBR.out.trans (HL.out.1.mono HBR.out.size))
   have HTX := Lib.hid ((HL.out.1.block _ (lt_of_block HT.out)).trans HT.out)
   by_cases hlk : k < x.ops.length
   ·have hg := List.getElem?_eq_getElem hlk
    generalize x.ops[k]'hlk = y at hg
    obtain ⟨bk, o, hpo, hx⟩ := RowIs.at del_len (RowIs.below HD.out.ops.1 HBX.out) hg
    have k0 := hx 0 (.string y.d.name) rfl
    have k1 := hx 1 (.slice y.io y.d.ins.length y.ic) rfl
    have k2 := hx 2 (.slice y.oo y.d.outs.length y.oc) rfl
    have k3 := hx 3 (.slice y.no y.d.needs.length y.nc) rfl
    have k4 := hx 4 (.int .i64 y.d.regions) rfl
    have k5 := hx 5 (.int .i64 y.d.succs) rfl
    have k6 := hx 6 (.slice y.ko y.d.traits.length y.kc) rfl
    rw [Nat.add_zero] at k0
    have HYF := Lib.hid (HF.out.ops y.d (by rw [HXD.out.2.2]; exact List.mem_map.2 ⟨y, List.mem_of_getElem? hg, rfl⟩))
    have HYO := Lib.hid (HD.out.ops.2 y (List.mem_of_getElem? hg))
    have HJ := Lib.hid hg
    have HLT := Lib.hid hlk
    have hlti : (k : Int) < (x.ops.length : Int) := by omega
    clear hx hg hlk hkk
    have TY := Lib.hid (heap_alloc_new wr (.cells #[.string y.d.name, .slice y.io y.d.ins.length y.ic, .slice y.oo y.d.outs.length y.oc, .slice y.no y.d.needs.length y.nc, .int .i64 y.d.regions, .int .i64 y.d.succs, .slice y.ko y.d.traits.length y.kc] 36))
    have BY := Lib.hid (HBX.out.trans ((new_below wr (.cells #[.string y.d.name, .slice y.io y.d.ins.length y.ic, .slice y.oo y.d.outs.length y.oc, .slice y.no y.d.needs.length y.nc, .int .i64 y.d.regions, .int .i64 y.d.succs, .slice y.ko y.d.traits.length y.kc] 36)).mono HBX.out.size))
    have LY := Lib.hid (HL.out.1.trans ((new_below wr (.cells #[.string y.d.name, .slice y.io y.d.ins.length y.ic, .slice y.oo y.d.outs.length y.oc, .slice y.no y.d.needs.length y.nc, .int .i64 y.d.regions, .int .i64 y.d.succs, .slice y.ko y.d.traits.length y.kc] 36)).mono HL.out.1.size))
    rw [hpo]
    go_upto_region 12 with fail
    clear k0 k1 k2 k3 k4 k5 k6
    generalize wr.alloc (.cells #[.string y.d.name, .slice y.io y.d.ins.length y.ic, .slice y.oo y.d.outs.length y.oc, .slice y.no y.d.needs.length y.nc, .int .i64 y.d.regions, .int .i64 y.d.succs, .slice y.ko y.d.traits.length y.kc] 36) = W3 at TY BY LY ⊢
    generalize wr.heap.size = E at TY ⊢
    obtain ⟨d0, d1, d2, d3, d4, d5, d6, df⟩ := dcells7 TY.out
    have HCY := Lib.hid (dRight_any y HYF.out W3 (HYO.out.below BY.out) (HE.out.below BY.out))
    unfold DEl.val at HCY
    go_wp2_with fail
    refine HCY.out.mono ?_
    rintro e w4 ⟨rfl, hb⟩
    have HB4 := Lib.hid (BY.out.trans (hb.mono BY.out.size))
    have HL4 := Lib.hid (LY.out.trans (hb.mono LY.out.size))
    clear hb d0 d1 d2 d3 d4 d5 d6 df HCY
    cases hry : rightD y.d
    ·have HX := Lib.hid (show rightX x.d = false by
      have e : x.d.ops.all rightD = false := List.all_eq_false.2 ⟨y.d, by rw [HXD.out.2.2]; exact List.mem_map.2 ⟨y, List.mem_of_getElem? HJ.out, rfl⟩, by rw [hry]; decide⟩
      unfold rightX
      rw [e]
      simp)
     clear hry
     go_wp2_with fail
     go_ret
     exact ⟨by rw [HX.out]; rfl, by rw [HDE.out]; exact HDE.out ▸ HB4.out⟩
    ·have HRY := Lib.hid hry
     clear hry
     go_wp2_with fail
     go_roundw
     case rel => exact ⟨k + 1, HLT.out, by go_num, HL4.out, fun j z hj hz => by
       rcases Nat.lt_or_ge j k with h | h
       ·exact HL.out.2 j z h hz
       ·obtain rfl : j = k := by omega
        rw [HJ.out] at hz
        cases hz
        exact HRY.out⟩
     case measure => have := HLT.out; simp only [intOf]; omega
   have hge : ¬ (k : Int) < (x.ops.length : Int) := by omega
   have HAO := Lib.hid (show x.d.ops.all rightD = true from List.all_eq_true.2 fun s hs => by
    rw [HXD.out.2.2] at hs
    obtain ⟨y, hy, rfl⟩ := List.mem_map.1 hs
    obtain ⟨j, hj⟩ := List.getElem?_of_mem hy
    exact HL.out.2 j y (by have := (List.getElem?_eq_some_iff.1 hj).1; omega) hj)
   have HRX := Lib.hid (show rightX x.d = (risingL x.types && risingL (x.ops.map (fun x : DEl => x.d.name))) by
    unfold rightX
    rw [HAO.out, HXD.out.1, HXD.out.2.1, HXD.out.2.2, HA.out, show nameB x.name = true from HNM.out, List.length_map, decide_eq_true H20.out, decide_eq_true H60.out, List.map_map]
    rfl)
   clear hlk hkk HL
   obtain ⟨c0, c1, c2, cf⟩ := cells3 HTX.out
   go_wp2_with fail
   refine (areRisingStr_any x.yo x.types x.yc (by have := HYI.out; omega) _ (HD.out.types.below HBX.out)).mono ?_
   rintro e w5 ⟨rfl, hb⟩
   have HT5 := Lib.hid ((hb.block _ (lt_of_block HTX.out)).trans HTX.out)
   have HB5 := Lib.hid (HBX.out.trans (hb.mono HBX.out.size))
   clear hb c0 c1 c2 cf hge
   obtain ⟨c0, c1, c2, cf⟩ := cells3 HT5.out
   cases hrs : risingL x.types
   ·have HX := Lib.hid (show rightX x.d = false by rw [HRX.out, hrs]; rfl)
    clear hrs
    go_wp2_with fail
    go_ret
    exact ⟨by rw [HX.out]; rfl, by rw [HDE.out]; exact HDE.out ▸ HB5.out⟩
   ·have HX := Lib.hid (show rightX x.d = risingL (x.ops.map (fun x : DEl => x.d.name)) by rw [HRX.out, hrs]; rfl)
    clear hrs
    go_wp2_with fail
    refine (areRisingDef_any x.po x.ops x.pc (by have := HPI.out; omega) _ (RowIs.below HD.out.ops.1 HB5.out)).mono ?_
    rintro e w6 ⟨rfl, hb⟩
    have HB6 := Lib.hid (HB5.out.trans (hb.mono HB5.out.size))
    clear hb c0 c1 c2 cf
    rw [← HX.out]
    go_wp2_with fail
    go_ret
    exact ⟨rfl, by rw [HDE.out]; exact HDE.out ▸ HB6.out⟩
end Go.Proofs.YtgimdkgjfenafaaGreatDoor
namespace Go.Proofs.YtgimdkgjfenafaaGreatDoor
open Go.RowKit
def goodX (x : DiaD) : Bool := !isIn coreNamesL x.name && rightX x
def rightXs (xs : List DiaD) : Bool := decide (xs.length ≤ 10) && risingL (xs.map (·.name)) && xs.all goodX
set_option maxHeartbeats 16000000 in
set_option maxRecDepth 100000 in
theorem isRightList_any (lo : Option Addr) (xs : List XEl) (lc : Nat) (hn : xs.length ≤ 9223372036854775806) (hf : ∀ x ∈ xs, DiaFit x.d) (w : World) (hl : DiasAt w lo xs) (hE : Env w) :
  Calls Tryz.prog 39 #[.slice lo xs.length lc] w fun e w' => e = .returned (.bool (rightXs (xs.map XEl.d))) ∧ Below w.heap.size w w' := by
 have HF := Lib.hid hf
 have HL := Lib.hid hl
 have HE := Lib.hid hE
 have HN := Lib.hid hn
 have hni : (xs.length : Int) ≤ 9223372036854775806 := by omega
 have HNM := Lib.hid (show (xs.map XEl.d).map (·.name) = xs.map (fun x : XEl => x.name) by rw [List.map_map]; rfl)
 clear hf hl hE hn
 by_cases h10 : xs.length ≤ 10
 rotate_left
 ·have h10i : decide ((xs.length : Int) > 10) = true := decide_eq_true (by omega)
  have HX := Lib.hid (show rightXs (xs.map XEl.d) = false by unfold rightXs; rw [List.length_map, decide_eq_false h10]; rfl)
  clear h10
  go_enter Tryz.func39, Tryz.ntmps39
  go_wp2_with fail
  go_ret
  exact ⟨by rw [HX.out]; rfl, Below.refl _ _⟩
 have h10i : decide ((xs.length : Int) > 10) = false := decide_eq_false (by omega)
 have H10 := Lib.hid h10
 clear h10
 go_enter Tryz.func39, Tryz.ntmps39
 go_wp2_with fail
 clear h10i
 refine (areRisingDialect_any lo xs lc (by have := HN.out; omega) w HL.out.1).mono ?_
 rintro e w1 ⟨rfl, hb⟩
 have B1 := Lib.hid hb
 clear hb
 cases hr : risingL (xs.map (fun x : XEl => x.name))
 ·have HX := Lib.hid (show rightXs (xs.map XEl.d) = false by unfold rightXs; rw [HNM.out, hr, Bool.and_false]; rfl)
  clear hr
  go_wp2_with fail
  go_ret
  exact ⟨by rw [HX.out]; rfl, B1.out⟩
 have HR := Lib.hid hr
 clear hr
 go_wp2_with fail
 go_loopw [15] (fun iv wr => ∃ m : Nat, m ≤ xs.length ∧ iv = .int .i64 m ∧ Hid (Below w.heap.size w wr ∧ ∀ (j : Nat) (x : XEl), j < m → xs[j]? = some x → goodX x.d = true)) (fun iv _ => xs.length - (intOf iv).toNat)
 case atStart => exact ⟨0, Nat.zero_le _, rfl, B1.out, fun j s h => absurd h (Nat.not_lt_zero _)⟩
 case round =>
  obtain ⟨m, hmm, rfl, HC⟩ := hrel
  by_cases hlt : m < xs.length
  rotate_left
  ·have hge : ¬ (m : Int) < (xs.length : Int) := by omega
   have HX := Lib.hid (show rightXs (xs.map XEl.d) = true by
    have e : (xs.map XEl.d).all goodX = true := List.all_eq_true.2 fun s hs => by
     obtain ⟨y, hy, rfl⟩ := List.mem_map.1 hs
     obtain ⟨j, hj⟩ := List.getElem?_of_mem hy
     exact HC.out.2 j y (by have := (List.getElem?_eq_some_iff.1 hj).1; omega) hj
    unfold rightXs
    rw [HNM.out, HR.out, List.length_map, decide_eq_true H10.out, e]
    rfl)
   clear hlt hmm
   go_wp2_with fail
   go_ret
   exact ⟨by rw [HX.out]; rfl, HC.out.1⟩
  have hg := List.getElem?_eq_getElem hlt
  generalize xs[m]'hlt = x at hg
  obtain ⟨bk, o, rfl, hx⟩ := RowIs.at xel_len (RowIs.below HL.out.1 HC.out.1) hg
  have k0 := hx 0 (.string x.name) rfl
  have k1 := hx 1 (.slice x.yo x.types.length x.yc) rfl
  have k2 := hx 2 (.slice x.po x.ops.length x.pc) rfl
  rw [Nat.add_zero] at k0
  have HXF := Lib.hid (HF.out x (List.mem_of_getElem? hg))
  have HXO := Lib.hid (HL.out.2 x (List.mem_of_getElem? hg))
  have HG := Lib.hid hg
  have HLT := Lib.hid hlt
  have hlti : (m : Int) < (xs.length : Int) := by omega
  clear hx hg hlt hmm
  have HNO := Lib.hid (fun (h : goodX x.d = false) => (show rightXs (xs.map XEl.d) = false by
   have e : (xs.map XEl.d).all goodX = false := List.all_eq_false.2 ⟨x.d, List.mem_map.2 ⟨x, List.mem_of_getElem? HG.out, rfl⟩, by rw [h]; decide⟩
   unfold rightXs
   rw [e, Bool.and_false]))
  have HYE := Lib.hid (fun (h : goodX x.d = true) => (show ∀ (j : Nat) (y : XEl), j < m + 1 → xs[j]? = some y → goodX y.d = true from fun j y hj hy => by
   rcases Nat.lt_or_ge j m with h1 | h1
   ·exact HC.out.2 j y h1 hy
   ·obtain rfl : j = m := by omega
    rw [HG.out] at hy
    cases hy
    exact h))
  have HT := Lib.hid (heap_alloc_new wr (.cells #[.string x.name, .slice x.yo x.types.length x.yc, .slice x.po x.ops.length x.pc] 90))
  have B3 := Lib.hid (HC.out.1.trans ((new_below wr (.cells #[.string x.name, .slice x.yo x.types.length x.yc, .slice x.po x.ops.length x.pc] 90)).mono HC.out.1.size))
  go_upto_region 6 with fail
  generalize wr.alloc (.cells #[.string x.name, .slice x.yo x.types.length x.yc, .slice x.po x.ops.length x.pc] 90) = W3 at HT B3 ⊢
  generalize wr.heap.size = D at HT ⊢
  clear k0 k1 k2 HC
  have HCS := Lib.hid (fun (X : World) (h : Hid (Below W3.heap.size W3 X)) => (show X.cell? ⟨D, 0, none⟩ = some (.string x.name) ∧ X.cell? ⟨D, 1, none⟩ = some (.slice x.yo x.types.length x.yc) ∧ X.cell? ⟨D, 2, none⟩ = some (.slice x.po x.ops.length x.pc) from
   ⟨(cells3 ((h.out.block _ (lt_of_block HT.out)).trans HT.out)).1, (cells3 ((h.out.block _ (lt_of_block HT.out)).trans HT.out)).2.1, (cells3 ((h.out.block _ (lt_of_block HT.out)).trans HT.out)).2.2.1⟩))
  have HBX := Lib.hid (fun (X : World) (h : Hid (Below W3.heap.size W3 X)) => (show Below w.heap.size w X from B3.out.trans (h.out.mono B3.out.size)))
  refine wp_region_held_drew (S := fun w' => Hid (Below W3.heap.size W3 w')) (by kernel_rfl) (Below.refl _ _).drew (fun hHeld => ?_)
  generalize W3.drew = V0 at hHeld ⊢
  refine wpAnyH_take (i := 1) (v := .pointer (some ⟨D, 0, none⟩)) rfl (by kernel_rfl) (by kernel_rfl) (by kernel_rfl) (fun _ _ _ h => h) (Or.inl ⟨by rfl, ?_⟩) hHeld ?_
  ·intro w9 hSw
   go_simp
  simp only [Act.put, sA, sB, sC, sD, sE, sF]
  refine wpAnyH_take (i := 2) (v := .string x.name) rfl (by kernel_rfl) (by kernel_rfl) (by kernel_rfl) (fun _ _ _ h => h) (Or.inl ⟨by rfl, ?_⟩) hHeld ?_
  ·intro w9 hSw
   have hcc := (HCS.out w9 hSw).1
   have hcd := (HCS.out w9 hSw).2.1
   have hce := (HCS.out w9 hSw).2.2
   go_simp
  simp only [Act.put, sA, sB, sC, sD, sE, sF]
  refine wpAnyH_ready (rs := [0]) (by kernel_rfl) (by simp) ?_
  refine AllReadyH.cons rfl (fun K hK => ?_) AllReadyH.nil
  go_simp
  go_at_call 66
  with_reducible refine (coreNames_any V0).mono ?_
  rintro e v1 ⟨qo, qc, rfl, hs, -, hb⟩
  try dsimp only
  have HS1 := Lib.hid (strs_keeps hs above_to)
  refine hK.out _ _ (show Hid (Below W3.heap.size W3 v1) from hHeld.out.trans (hb.mono hHeld.out.size)) (fun h1 => ?_)
  clear hK K hs hb hHeld
  try simp only [Act.put, sA, sC, sD, sE, sF]
  refine wpAnyH_ready (rs := [3]) (by kernel_rfl) (by simp) ?_
  refine AllReadyH.cons rfl (fun K hK => ?_) AllReadyH.nil
  go_simp
  go_at_call 62
  with_reducible refine (Contains_any qo coreNamesL qc x.name (by decide) v1 HS1.out).mono ?_
  rintro e v2 ⟨rfl, rfl⟩
  try dsimp only
  refine hK.out _ _ h1 (fun hHeld => ?_)
  clear hK K h1
  try simp only [Act.put, sA, sB, sC, sD, sE, sF]
  cases hin : isIn coreNamesL x.name
  rotate_left
  ·have HX := Lib.hid (HNO.out (show goodX x.d = false by unfold goodX; rw [show x.d.name = x.name from rfl, hin]; rfl))
   clear hin
   refine wpAnyH_take (i := 4) (v := .bool true) rfl (by kernel_rfl) (by kernel_rfl) (by kernel_rfl) (fun _ _ _ h => h) (Or.inl ⟨by rfl, ?_⟩) hHeld ?_
   ·intro w9 hSw
    go_simp
   simp only [Act.put, sA, sB, sC, sD, sE, sF]
   refine wpAnyH_take (i := 5) (v := undef) rfl (by kernel_rfl) (by kernel_rfl) (by kernel_rfl) (fun _ _ _ h => h) (Or.inr ⟨by rfl, rfl⟩) hHeld ?_
   simp only [Act.put, sA, sB, sC, sD, sE, sF]
   refine wpAnyH_take (i := 6) (v := undef) rfl (by kernel_rfl) (by kernel_rfl) (by kernel_rfl) (fun _ _ _ h => h) (Or.inr ⟨by rfl, rfl⟩) hHeld ?_
   simp only [Act.put, sA, sB, sC, sD, sE, sF]
   refine wpAnyH_take (i := 7) (v := undef) rfl (by kernel_rfl) (by kernel_rfl) (by kernel_rfl) (fun _ _ _ h => h) (Or.inr ⟨by rfl, rfl⟩) hHeld ?_
   simp only [Act.put, sA, sB, sC, sD, sE, sF]
   refine wpAnyH_take (i := 8) (v := .bool true) rfl (by kernel_rfl) (by kernel_rfl) (by kernel_rfl) (fun _ _ _ h => h) (Or.inl ⟨by rfl, ?_⟩) hHeld ?_
   ·intro w9 hSw
    go_simp
   simp only [Act.put, sA, sB, sC, sD, sE, sF]
   refine wpAnyH_done (by kernel_rfl) ?_ _
   go_wp2_with fail
   go_ret
   exact ⟨by rw [HX.out]; rfl, HBX.out _ hHeld⟩
  have HGE := Lib.hid (show goodX x.d = rightX x.d by unfold goodX; rw [show x.d.name = x.name from rfl, hin]; rfl)
  clear hin
  refine wpAnyH_take (i := 4) (v := .bool false) rfl (by kernel_rfl) (by kernel_rfl) (by kernel_rfl) (fun _ _ _ h => h) (Or.inl ⟨by rfl, ?_⟩) hHeld ?_
  ·intro w9 hSw
   go_simp
  simp only [Act.put, sA, sB, sC, sD, sE, sF]
  refine wpAnyH_take (i := 5) (v := .agg #[.string x.name, .slice x.yo x.types.length x.yc, .slice x.po x.ops.length x.pc]) rfl (by kernel_rfl) (by kernel_rfl) (by kernel_rfl) (fun _ _ _ h => h) (Or.inl ⟨by rfl, ?_⟩) hHeld ?_
  ·intro w9 hSw
   have hcc := (HCS.out w9 hSw).1
   have hcd := (HCS.out w9 hSw).2.1
   have hce := (HCS.out w9 hSw).2.2
   go_simp
  simp only [Act.put, sA, sB, sC, sD, sE, sF]
  have HCI := Lib.hid (isRightDialect_any x HXF.out v1 (HXO.out.below (HBX.out _ hHeld)) (HE.out.below (HBX.out _ hHeld)))
  refine wpAnyH_ready (rs := [6]) (by kernel_rfl) (by simp) ?_
  refine AllReadyH.cons rfl (fun K hK => ?_) AllReadyH.nil
  go_simp
  go_at_call 70
  with_reducible refine HCI.out.mono ?_
  rintro e v3 ⟨rfl, hb⟩
  try dsimp only
  refine hK.out _ _ (show Hid (Below W3.heap.size W3 v3) from hHeld.out.trans (hb.mono hHeld.out.size)) (fun h3 => ?_)
  clear hK K hb hHeld HCI
  have hHeld := h3
  clear h3
  try simp only [Act.put, sA, sB, sC, sD, sE, sF]
  cases hrx : rightX x.d
  ·have HX := Lib.hid (HNO.out (by rw [HGE.out]; exact hrx))
   clear hrx
   refine wpAnyH_take (i := 7) (v := .bool true) rfl (by kernel_rfl) (by kernel_rfl) (by kernel_rfl) (fun _ _ _ h => h) (Or.inl ⟨by rfl, ?_⟩) hHeld ?_
   ·intro w9 hSw
    go_simp
   simp only [Act.put, sA, sB, sC, sD, sE, sF]
   refine wpAnyH_take (i := 8) (v := .bool true) rfl (by kernel_rfl) (by kernel_rfl) (by kernel_rfl) (fun _ _ _ h => h) (Or.inl ⟨by rfl, ?_⟩) hHeld ?_
   ·intro w9 hSw
    go_simp
   simp only [Act.put, sA, sB, sC, sD, sE, sF]
   refine wpAnyH_done (by kernel_rfl) ?_ _
   go_wp2_with fail
   go_ret
   exact ⟨by rw [HX.out]; rfl, HBX.out _ hHeld⟩
  ·have HX := Lib.hid (HYE.out (by rw [HGE.out]; exact hrx))
   clear hrx
   refine wpAnyH_take (i := 7) (v := .bool false) rfl (by kernel_rfl) (by kernel_rfl) (by kernel_rfl) (fun _ _ _ h => h) (Or.inl ⟨by rfl, ?_⟩) hHeld ?_
   ·intro w9 hSw
    go_simp
   simp only [Act.put, sA, sB, sC, sD, sE, sF]
   refine wpAnyH_take (i := 8) (v := .bool false) rfl (by kernel_rfl) (by kernel_rfl) (by kernel_rfl) (fun _ _ _ h => h) (Or.inl ⟨by rfl, ?_⟩) hHeld ?_
   ·intro w9 hSw
    go_simp
   simp only [Act.put, sA, sB, sC, sD, sE, sF]
   refine wpAnyH_done (by kernel_rfl) ?_ _
   go_wp2_with fail
   go_roundw
   case rel => exact ⟨m + 1, HLT.out, by go_num, HBX.out _ hHeld, HX.out⟩
   case measure => have := HLT.out; simp only [intOf]; omega
def errX (xs : List DiaD) : Int := if rightXs xs = true then 0 else 50
theorem errX_no {xs : List DiaD} (h : rightXs xs = false) : errX xs = 50 := by unfold errX; rw [h]; rfl
theorem errX_yes {xs : List DiaD} (h : rightXs xs = true) : errX xs = 0 := by unfold errX; rw [h]; rfl
set_option maxHeartbeats 1000000 in
set_option maxRecDepth 100000 in
theorem Check_any (lo : Option Addr) (xs : List XEl) (lc : Nat) (hn : xs.length ≤ 9223372036854775806) (hf : ∀ x ∈ xs, DiaFit x.d) (w : World) (hl : DiasAt w lo xs) (hE : Env w) :
  Calls Tryz.prog 12 #[.slice lo xs.length lc] w fun e w' => e = .returned (.int .i64 (errX (xs.map XEl.d))) ∧ Below w.heap.size w w' := by
 have HC := Lib.hid (isRightList_any lo xs lc hn hf w hl hE)
 clear hn hf hl hE
 go_enter Tryz.func12, Tryz.ntmps12
 go_wp2_with fail
 refine HC.out.mono ?_
 rintro e w1 ⟨rfl, hb⟩
 have B1 := Lib.hid hb
 clear hb HC
 cases hr : rightXs (xs.map XEl.d)
 ·have HR := Lib.hid (errX_no hr)
  clear hr
  go_wp2_with fail
  go_ret
  exact ⟨by rw [HR.out]; rfl, B1.out⟩
 ·have HR := Lib.hid (errX_yes hr)
  clear hr
  go_wp2_with fail
  go_ret
  exact ⟨by rw [HR.out]; rfl, B1.out⟩
end Go.Proofs.YtgimdkgjfenafaaGreatDoor
namespace Go.Proofs.YtgimdkgjfenafaaGreatDoor
open Go.RowKit
theorem below_row0 {W : World} {cs cs' : Array Value} {T : TypeId} : Below W.heap.size W ((W.alloc (.cells cs T (0, 0))).setRow W.heap.size cs') :=
 below_setRow (new_below W _) (Nat.le_refl _) _
theorem copy_rows {w : World} {T ty elem : TypeId} {g n sz dCap sCap : Nat} {a : Addr} {cur : Array Value} {t : TypeId} {cs : List Value} (hu : Tryz.prog.underlying T = some (.slice elem)) (hs : (Tryz.prog.info? elem).map (·.size) = some sz)
  (hg : w.heap[g]? = some (.cells cur t (0, 0))) (hn : cs.length = n * sz) (hc : cur.size = n * sz) (hsrc : ∀ j v, cs[j]? = some v → w.cell? (a.add j) = some v) (h1 : ∀ v ∈ cs, v.oneCell' = true) :
  (Builtin.copy_ #[T, T] ty #[.slice (some ⟨g, 0, none⟩) n dCap, .slice (some a) n sCap]).run Tryz.prog w = .ok (goInt n) (w.setRow g cs.toArray) := by
 have hl := run_loadCells_list (P := Tryz.prog) w a cs hsrc
 have hst := run_storeCells_at Tryz.prog g 0 t cs 0 cur w hg (by omega) h1
 have hd : cur.toList.drop cs.length = [] := List.drop_eq_nil_of_le (by simp; omega)
 rw [List.take_zero, List.nil_append, Nat.zero_add, hd, List.append_nil] at hst
 cases hq : Tryz.prog.info? elem with
 | none => simp [hq] at hs
 | some i =>
  have hi : i.size = sz := by simpa [hq] using hs
  simp [Builtin.copy_, run_underlying hu, Builtin.lenOf, Builtin.firstCells, sizeOf, typeInfo, hq, hi, ← hn, hl, hst]
theorem copy_zero {w : World} {T ty elem : TypeId} {sz g c d : Nat} {ao : Option Addr} (hu : Tryz.prog.underlying T = some (.slice elem)) (hs : (Tryz.prog.info? elem).map (·.size) = some sz) :
  (Builtin.copy_ #[T, T] ty #[.slice (some ⟨g, 0, none⟩) 0 d, .slice ao 0 c]).run Tryz.prog w = .ok (goInt 0) w := by
 cases hq : Tryz.prog.info? elem with
 | none => simp [hq] at hs
 | some i =>
  cases ao with
  | none => simp [Builtin.copy_, run_underlying hu, Builtin.lenOf, Builtin.firstCells, sizeOf, typeInfo, hq, storeCells]
  | some a =>
   have hl : (loadCells a 0).run Tryz.prog w = .ok #[] w := run_loadCells_list (P := Tryz.prog) w a [] (fun j v h => by simp at h)
   simp [Builtin.copy_, run_underlying hu, Builtin.lenOf, Builtin.firstCells, sizeOf, typeInfo, hq, hl, storeCells]
theorem make_rows {T E : TypeId} {sz : Nat} (hT : Tryz.prog.underlying T = some (.slice E)) (hI : InfoIs E sz) (n : Nat) (hn : n ≤ 1000000) (u : World) : ∃ cs : Array Value, cs.size = n * sz ∧ (Instr.makeSlice T (.int .i64 n) (.int .i64 n)).run Tryz.prog u =
  .ok (.slice (some ⟨u.heap.size, 0, none⟩) n n) (u.alloc (.cells cs E)) := by
 obtain ⟨i, z, hi, hz, hsz, _, hby⟩ := hI
 have h := run_make (P := Tryz.prog) u T E i z hT hi hz .i64 .i64 n n (by omega) (Int.le_refl _) (by
  have : (i.bytes : Int) * n ≤ 100000 * n := Int.mul_le_mul_of_nonneg_right (by omega) (by omega)
  omega) (by omega)
 rw [hsz, Int.toNat_natCast] at h
 exact ⟨_, by simp [madeCells], h⟩
theorem needs_len (zs : List NeedD) : (zs.flatMap NeedD.cells).length = zs.length * 2 := by
 induction zs with
 | nil => rfl
 | cons z zs ih => rw [List.flatMap_cons, List.length_append, ih, need_len, List.length_cons]; omega
theorem info_need : InfoIs 103 2 := infoIs (by kernel_rfl)
theorem sz_string : (Tryz.prog.info? 9).map (·.size) = some 1 := by kernel_rfl
theorem sz_need : (Tryz.prog.info? 103).map (·.size) = some 2 := by kernel_rfl
set_option maxHeartbeats 1000000 in
set_option maxRecDepth 100000 in
theorem freshS_any (ao : Option Addr) (zs : List ByteArray) (c : Nat) (hn : zs.length ≤ 1000000) (w : World) (hz : StrsAt w ao zs) :
  Calls Tryz.prog 81 #[.slice ao zs.length c] w fun e w' => ∃ (ao' : Option Addr) (c' : Nat), e = .returned (.slice ao' zs.length c') ∧ StrsAt (above w.heap.size w') ao' zs ∧ zs.length ≤ c' ∧ Below w.heap.size w w' := by
 have HZ := Lib.hid hz
 clear hz
 by_cases h0 : zs.length = 0
 ·obtain rfl := List.eq_nil_of_length_eq_zero h0
  clear h0 hn HZ
  obtain ⟨z0, hz0, hmk⟩ := make_rows (T := 27) (E := 9) Tryz.underlying27 info_string 0 (by decide) w
  replace hmk : (Instr.makeSlice 27 (.int .i64 0) (.int .i64 0)).run Tryz.prog w = .ok (.slice (some ⟨w.heap.size, 0, none⟩) 0 0) (w.alloc (.cells z0 9)) := hmk
  have hcp : ∀ W, (Builtin.copy_ #[27, 27] 3 #[.slice (some ⟨w.heap.size, 0, none⟩) 0 0, .slice ao 0 c]).run Tryz.prog W = .ok (goInt 0) W := fun W => copy_zero Tryz.underlying27 sz_string
  go_enter Tryz.func81, Tryz.ntmps81
  go_wp2_with fail
  go_ret
  exact ⟨_, _, rfl, .inl rfl, Nat.zero_le _, by first | exact Below.refl _ _ | exact new_below _ _⟩
 ·obtain ⟨z0, hz0, hmk⟩ := make_rows (T := 27) (E := 9) Tryz.underlying27 info_string zs.length hn w
  have hz2 : ¬ (zs.length : Int) = 0 := by omega
  have Z0 := Lib.hid hz0
  clear hz0
  go_enter Tryz.func81, Tryz.ntmps81
  go_wp2_with fail
  obtain ⟨a, rfl⟩ : ∃ a, ao = some a := by
   rcases HZ.out with h | ⟨a, h, _⟩
   ·exact absurd (by rw [h]; rfl) h0
   ·exact ⟨a, h⟩
  have hsrc : ∀ j v, (zs.map Value.string)[j]? = some v → w.cell? (a.add j) = some v := fun j v h => by
   rw [List.getElem?_map] at h
   obtain ⟨z, hz, rfl⟩ := Option.map_eq_some_iff.1 h
   exact strs_at HZ.out hz
  have hone : ∀ v ∈ zs.map Value.string, v.oneCell' = true := fun v hv => by
   obtain ⟨z, _, rfl⟩ := List.mem_map.1 hv
   rfl
  have hlen : (zs.map Value.string).length = zs.length * 1 := by simp
  have hcp := copy_rows (w := w.alloc (.cells z0 9)) (T := 27) (ty := 3) (elem := 9) (g := w.heap.size) (n := zs.length) (sz := 1) (dCap := zs.length) (sCap := c) (a := a) (t := 9)
   (cs := zs.map Value.string) Tryz.underlying27 sz_string (heap_alloc_new w _) hlen Z0.out (fun j v h => ((new_below w _).cell (block_lt_of_cell (hsrc j v h))).trans (hsrc j v h)) hone
  rw [hcp]
  have R1 := Lib.hid (setRow_heap (w.alloc (.cells z0 9)) w.heap.size _ (zs.map Value.string).toArray _ _ (heap_alloc_new w _))
  have R2 := Lib.hid (below_row0 (W := w) (cs := z0) (T := 9) (cs' := (zs.map Value.string).toArray))
  generalize (w.alloc (.cells z0 9)).setRow w.heap.size (zs.map Value.string).toArray = w2 at R1 R2 ⊢
  clear hcp hsrc hone hlen HZ hmk Z0
  go_wp2_with fail
  go_ret
  exact ⟨some ⟨w.heap.size, 0, none⟩, zs.length, rfl, strs_is (ss := zs) (above_heap R1.out (Nat.le_refl _)), Nat.le_refl _, R2.out⟩
set_option maxHeartbeats 1000000 in
set_option maxRecDepth 100000 in
theorem freshN_any (ao : Option Addr) (zs : List NeedD) (c : Nat) (hn : zs.length ≤ 1000000) (w : World) (hz : NeedsAt w ao zs) :
  Calls Tryz.prog 82 #[.slice ao zs.length c] w fun e w' => ∃ (ao' : Option Addr) (c' : Nat), e = .returned (.slice ao' zs.length c') ∧ NeedsAt (above w.heap.size w') ao' zs ∧ zs.length ≤ c' ∧ Below w.heap.size w w' := by
 have HZ := Lib.hid hz
 clear hz
 by_cases h0 : zs.length = 0
 ·obtain rfl := List.eq_nil_of_length_eq_zero h0
  clear h0 hn HZ
  obtain ⟨z0, hz0, hmk⟩ := make_rows (T := 34) (E := 103) Tryz.underlying34 info_need 0 (by decide) w
  replace hmk : (Instr.makeSlice 34 (.int .i64 0) (.int .i64 0)).run Tryz.prog w = .ok (.slice (some ⟨w.heap.size, 0, none⟩) 0 0) (w.alloc (.cells z0 103)) := hmk
  have hcp : ∀ W, (Builtin.copy_ #[34, 34] 3 #[.slice (some ⟨w.heap.size, 0, none⟩) 0 0, .slice ao 0 c]).run Tryz.prog W = .ok (goInt 0) W := fun W => copy_zero Tryz.underlying34 sz_need
  go_enter Tryz.func82, Tryz.ntmps82
  go_wp2_with fail
  go_ret
  exact ⟨_, _, rfl, .inl rfl, Nat.zero_le _, by first | exact Below.refl _ _ | exact new_below _ _⟩
 ·obtain ⟨z0, hz0, hmk⟩ := make_rows (T := 34) (E := 103) Tryz.underlying34 info_need zs.length hn w
  have hz2 : ¬ (zs.length : Int) = 0 := by omega
  have Z0 := Lib.hid hz0
  clear hz0
  go_enter Tryz.func82, Tryz.ntmps82
  go_wp2_with fail
  obtain ⟨bk, o, rfl, hc⟩ : ∃ bk o, ao = some ⟨bk, o, none⟩ ∧ ∀ j v, (zs.flatMap NeedD.cells)[j]? = some v → w.cell? ⟨bk, o + j, none⟩ = some v := by
   rcases HZ.out with h | h
   ·exact absurd h h0
   ·exact h
  obtain ⟨a, ha⟩ : ∃ a : Addr, a = ⟨bk, o, none⟩ := ⟨_, rfl⟩
  rw [← ha]
  have hsrc : ∀ j v, (zs.flatMap NeedD.cells)[j]? = some v → w.cell? (a.add j) = some v := fun j v h => by
   rw [ha, show (⟨bk, o, none⟩ : Addr).add j = ⟨bk, o + j, none⟩ by unfold Addr.add; split <;> simp_all]
   exact hc j v h
  clear hc ha
  have hone : ∀ v ∈ zs.flatMap NeedD.cells, v.oneCell' = true := fun v hv => by
   obtain ⟨z, _, hz⟩ := List.mem_flatMap.1 hv
   simp only [NeedD.cells, List.mem_cons, List.not_mem_nil, or_false] at hz
   rcases hz with rfl | rfl <;> rfl
  have hlen := needs_len zs
  have hcp := copy_rows (w := w.alloc (.cells z0 103)) (T := 34) (ty := 3) (elem := 103) (g := w.heap.size) (n := zs.length) (sz := 2) (dCap := zs.length) (sCap := c) (a := a) (t := 103)
   (cs := zs.flatMap NeedD.cells) Tryz.underlying34 sz_need (heap_alloc_new w _) hlen Z0.out (fun j v h => ((new_below w _).cell (block_lt_of_cell (hsrc j v h))).trans (hsrc j v h)) hone
  rw [hcp]
  have R1 := Lib.hid (setRow_heap (w.alloc (.cells z0 103)) w.heap.size _ (zs.flatMap NeedD.cells).toArray _ _ (heap_alloc_new w _))
  have R2 := Lib.hid (below_row0 (W := w) (cs := z0) (T := 103) (cs' := (zs.flatMap NeedD.cells).toArray))
  generalize (w.alloc (.cells z0 103)).setRow w.heap.size (zs.flatMap NeedD.cells).toArray = w2 at R1 R2 ⊢
  clear hcp hsrc hone hlen HZ hmk Z0
  go_wp2_with fail
  go_ret
  exact ⟨some ⟨w.heap.size, 0, none⟩, zs.length, rfl, row_is (above_heap R1.out (Nat.le_refl _)), Nat.le_refl _, R2.out⟩
theorem dabove_to {N M b : Nat} {w : World} {u0 u1 u2 u3 u4 u5 u6 : Value} (hb : b < N) (hM : M ≤ N) : Keeps (above N w) (above M (((((((w.setCell ⟨b, 0, none⟩ u0).setCell ⟨b, 1, none⟩ u1).setCell ⟨b, 2, none⟩ u2).setCell ⟨b, 3, none⟩ u3).setCell ⟨b, 4, none⟩ u4).setCell ⟨b, 5, none⟩ u5).setCell ⟨b, 6, none⟩ u6)) := mask_keeps fun k hp hk => by
 simp only [decide_eq_true_eq] at hp ⊢
 exact ⟨by omega, dset7_other (by omega)⟩
theorem above_set {N b j : Nat} {X : World} {u : Value} (hb : b < N) : Keeps (above N X) (above N (X.setCell ⟨b, j, none⟩ u)) := mask_keeps fun k hp hk => ⟨hp, by
 simp only [decide_eq_true_eq] at hp
 exact heap_setCell_other _ _ _ _ (by simp; omega)⟩
def CopyP (d : DefD) (w : World) (e : Ending) (w' : World) : Prop := ∃ y : DEl, e = .returned y.val ∧ y.d = d ∧ DefOK (above w.heap.size w') y ∧ Below w.heap.size w w'
structure CpS (w X : World) (cs : Array Value) : Prop where
 t0 : X.heap[w.heap.size]? = some (.cells cs 36 (0, 0))
 t1 : X.heap[w.heap.size + 1]? = some (.cells #[.string ⟨#[]⟩, .slice none 0 0, .slice none 0 0, .slice none 0 0, .int .i64 0, .int .i64 0, .slice none 0 0] 36 (0, 0))
 below : Below w.heap.size w X
theorem CpS.moved {w X X' : World} {cs : Array Value} (h : CpS w X cs) (hb : Below X.heap.size X X') : CpS w X' cs := ⟨(hb.block _ (lt_of_block h.t0)).trans h.t0, (hb.block _ (lt_of_block h.t1)).trans h.t1, h.below.trans (hb.mono h.below.size)⟩
theorem CpS.stored {w X : World} {cs : Array Value} (h : CpS w X cs) {j : Nat} {u : Value} : CpS w (X.setCell ⟨w.heap.size, j, none⟩ u) (cs.setIfInBounds j u) :=
 ⟨heap_setCell_same _ _ _ _ _ _ h.t0, (heap_setCell_other _ _ _ _ (by simp)).trans h.t1, h.below.setCell (p := ⟨w.heap.size, j, none⟩) (Nat.le_refl _) _⟩
set_option maxHeartbeats 8000000 in
set_option maxRecDepth 100000 in
theorem copied_any (x : DEl) (hs : DefShort x.d) (w : World) (hd : DefOK w x) : Calls Tryz.prog 46 #[x.val] w (CopyP x.d w) := by
 obtain ⟨W1, hW1⟩ : ∃ W1, W1 = (w.alloc (.cells #[.string x.d.name, .slice x.io x.d.ins.length x.ic, .slice x.oo x.d.outs.length x.oc, .slice x.no x.d.needs.length x.nc, .int .i64 x.d.regions, .int .i64 x.d.succs, .slice x.ko x.d.traits.length x.kc] 36)).alloc (.cells #[.string ⟨#[]⟩, .slice none 0 0, .slice none 0 0, .slice none 0 0, .int .i64 0, .int .i64 0, .slice none 0 0] 36) := ⟨_, rfl⟩
 have HC : Hid (CpS w W1 #[.string x.d.name, .slice x.io x.d.ins.length x.ic, .slice x.oo x.d.outs.length x.oc, .slice x.no x.d.needs.length x.nc, .int .i64 x.d.regions, .int .i64 x.d.succs, .slice x.ko x.d.traits.length x.kc]) := by
  show CpS _ _ _
  rw [hW1]
  exact ⟨fst_block _ _ _, snd_block _ _ _, bel_two _ _ _⟩
 have HN := Lib.hid (show w.heap.size + 1 < W1.heap.size from lt_of_block HC.out.t1)
 have HD := Lib.hid hd
 have HS := Lib.hid hs
 clear hd hs
 unfold DEl.val
 go_enter Tryz.func46, Tryz.ntmps46
 go_upto_region 1 with fail
 rw [← hW1]
 clear hW1
 have HG := Lib.hid (Nat.le_refl W1.heap.size)
 obtain ⟨c0, c1, c2, c3, c4, c5, c6, cf⟩ := dcells7 HC.out.t0
 go_wp2_with fail
 refine (freshS_any x.io x.d.ins x.ic HS.out.ins W1 (HD.out.ins.below HC.out.below)).mono ?_
 rintro e v1 ⟨io, ic, rfl, hr, hc, hb⟩
 have HQ1 := Lib.hid (show _ from hc)
 have HR1 := Lib.hid (strs_keeps hr (above_above HG.out))
 replace HC := Lib.hid (HC.out.moved hb)
 replace HG := Lib.hid (show W1.heap.size ≤ v1.heap.size from Nat.le_trans HG.out hb.size)
 clear hr hc hb c0 c1 c2 c3 c4 c5 c6 cf
 obtain ⟨c0, c1, c2, c3, c4, c5, c6, cf⟩ := dcells7 HC.out.t0
 go_upto_region 2 with fail
 clear c0 c1 c2 c3 c4 c5 c6 cf
 replace HC := Lib.hid (show CpS w (v1.setCell ⟨w.heap.size, 1, none⟩ (.slice io x.d.ins.length ic)) #[.string x.d.name, .slice io x.d.ins.length ic, .slice x.oo x.d.outs.length x.oc, .slice x.no x.d.needs.length x.nc, .int .i64 x.d.regions, .int .i64 x.d.succs, .slice x.ko x.d.traits.length x.kc] from HC.out.stored)
 replace HG := Lib.hid (show W1.heap.size ≤ (v1.setCell ⟨w.heap.size, 1, none⟩ (.slice io x.d.ins.length ic)).heap.size by rw [setCell_size]; exact HG.out)
 replace HR1 := Lib.hid (strs_keeps HR1.out (above_set (b := w.heap.size) (j := 1) (u := .slice io x.d.ins.length ic) (show w.heap.size < W1.heap.size by have := HN.out; omega)))
 generalize v1.setCell ⟨w.heap.size, 1, none⟩ (.slice io x.d.ins.length ic) = Y1 at HC HG HR1 ⊢
 obtain ⟨c0, c1, c2, c3, c4, c5, c6, cf⟩ := dcells7 HC.out.t0
 go_wp2_with fail
 refine (freshS_any x.oo x.d.outs x.oc HS.out.outs Y1 (HD.out.outs.below HC.out.below)).mono ?_
 rintro e v2 ⟨oo, oc, rfl, hr, hc, hb⟩
 have HQ2 := Lib.hid (show _ from hc)
 have HR2 := Lib.hid (strs_keeps hr (above_above HG.out))
 replace HR1 := Lib.hid (strs_keeps HR1.out (above_below hb))
 replace HC := Lib.hid (HC.out.moved hb)
 replace HG := Lib.hid (show W1.heap.size ≤ v2.heap.size from Nat.le_trans HG.out hb.size)
 clear hr hc hb c0 c1 c2 c3 c4 c5 c6 cf
 obtain ⟨c0, c1, c2, c3, c4, c5, c6, cf⟩ := dcells7 HC.out.t0
 go_upto_region 3 with fail
 clear c0 c1 c2 c3 c4 c5 c6 cf
 replace HC := Lib.hid (show CpS w (v2.setCell ⟨w.heap.size, 2, none⟩ (.slice oo x.d.outs.length oc)) #[.string x.d.name, .slice io x.d.ins.length ic, .slice oo x.d.outs.length oc, .slice x.no x.d.needs.length x.nc, .int .i64 x.d.regions, .int .i64 x.d.succs, .slice x.ko x.d.traits.length x.kc] from HC.out.stored)
 replace HG := Lib.hid (show W1.heap.size ≤ (v2.setCell ⟨w.heap.size, 2, none⟩ (.slice oo x.d.outs.length oc)).heap.size by rw [setCell_size]; exact HG.out)
 replace HR1 := Lib.hid (strs_keeps HR1.out (above_set (b := w.heap.size) (j := 2) (u := .slice oo x.d.outs.length oc) (show w.heap.size < W1.heap.size by have := HN.out; omega)))
 replace HR2 := Lib.hid (strs_keeps HR2.out (above_set (b := w.heap.size) (j := 2) (u := .slice oo x.d.outs.length oc) (show w.heap.size < W1.heap.size by have := HN.out; omega)))
 generalize v2.setCell ⟨w.heap.size, 2, none⟩ (.slice oo x.d.outs.length oc) = Y2 at HC HG HR1 HR2 ⊢
 obtain ⟨c0, c1, c2, c3, c4, c5, c6, cf⟩ := dcells7 HC.out.t0
 go_wp2_with fail
 refine (freshN_any x.no x.d.needs x.nc HS.out.needs Y2 (RowIs.below HD.out.needs HC.out.below)).mono ?_
 rintro e v3 ⟨no, nc, rfl, hr, hc, hb⟩
 have HQ3 := Lib.hid (show _ from hc)
 have HR3 := Lib.hid (RowIs.keeps hr (above_above HG.out))
 replace HR1 := Lib.hid (strs_keeps HR1.out (above_below hb))
 replace HR2 := Lib.hid (strs_keeps HR2.out (above_below hb))
 replace HC := Lib.hid (HC.out.moved hb)
 replace HG := Lib.hid (show W1.heap.size ≤ v3.heap.size from Nat.le_trans HG.out hb.size)
 clear hr hc hb c0 c1 c2 c3 c4 c5 c6 cf
 obtain ⟨c0, c1, c2, c3, c4, c5, c6, cf⟩ := dcells7 HC.out.t0
 go_upto_region 4 with fail
 clear c0 c1 c2 c3 c4 c5 c6 cf
 replace HC := Lib.hid (show CpS w (v3.setCell ⟨w.heap.size, 3, none⟩ (.slice no x.d.needs.length nc)) #[.string x.d.name, .slice io x.d.ins.length ic, .slice oo x.d.outs.length oc, .slice no x.d.needs.length nc, .int .i64 x.d.regions, .int .i64 x.d.succs, .slice x.ko x.d.traits.length x.kc] from HC.out.stored)
 replace HG := Lib.hid (show W1.heap.size ≤ (v3.setCell ⟨w.heap.size, 3, none⟩ (.slice no x.d.needs.length nc)).heap.size by rw [setCell_size]; exact HG.out)
 replace HR1 := Lib.hid (strs_keeps HR1.out (above_set (b := w.heap.size) (j := 3) (u := .slice no x.d.needs.length nc) (show w.heap.size < W1.heap.size by have := HN.out; omega)))
 replace HR2 := Lib.hid (strs_keeps HR2.out (above_set (b := w.heap.size) (j := 3) (u := .slice no x.d.needs.length nc) (show w.heap.size < W1.heap.size by have := HN.out; omega)))
 replace HR3 := Lib.hid (RowIs.keeps HR3.out (above_set (b := w.heap.size) (j := 3) (u := .slice no x.d.needs.length nc) (show w.heap.size < W1.heap.size by have := HN.out; omega)))
 generalize v3.setCell ⟨w.heap.size, 3, none⟩ (.slice no x.d.needs.length nc) = Y3 at HC HG HR1 HR2 HR3 ⊢
 obtain ⟨c0, c1, c2, c3, c4, c5, c6, cf⟩ := dcells7 HC.out.t0
 go_wp2_with fail
 refine (freshS_any x.ko x.d.traits x.kc HS.out.traits Y3 (HD.out.traits.below HC.out.below)).mono ?_
 rintro e v4 ⟨ko, kc, rfl, hr, hc, hb⟩
 have HQ4 := Lib.hid (show _ from hc)
 have HR4 := Lib.hid (strs_keeps hr (above_above HG.out))
 replace HR1 := Lib.hid (strs_keeps HR1.out (above_below hb))
 replace HR2 := Lib.hid (strs_keeps HR2.out (above_below hb))
 replace HR3 := Lib.hid (RowIs.keeps HR3.out (above_below hb))
 replace HC := Lib.hid (HC.out.moved hb)
 replace HG := Lib.hid (show W1.heap.size ≤ v4.heap.size from Nat.le_trans HG.out hb.size)
 clear hr hc hb c0 c1 c2 c3 c4 c5 c6 cf
 obtain ⟨c0, c1, c2, c3, c4, c5, c6, cf⟩ := dcells7 HC.out.t0
 go_upto_region 5 with fail
 clear c0 c1 c2 c3 c4 c5 c6 cf
 replace HC := Lib.hid (show CpS w (v4.setCell ⟨w.heap.size, 6, none⟩ (.slice ko x.d.traits.length kc)) #[.string x.d.name, .slice io x.d.ins.length ic, .slice oo x.d.outs.length oc, .slice no x.d.needs.length nc, .int .i64 x.d.regions, .int .i64 x.d.succs, .slice ko x.d.traits.length kc] from HC.out.stored)
 replace HG := Lib.hid (show W1.heap.size ≤ (v4.setCell ⟨w.heap.size, 6, none⟩ (.slice ko x.d.traits.length kc)).heap.size by rw [setCell_size]; exact HG.out)
 replace HR1 := Lib.hid (strs_keeps HR1.out (above_set (b := w.heap.size) (j := 6) (u := .slice ko x.d.traits.length kc) (show w.heap.size < W1.heap.size by have := HN.out; omega)))
 replace HR2 := Lib.hid (strs_keeps HR2.out (above_set (b := w.heap.size) (j := 6) (u := .slice ko x.d.traits.length kc) (show w.heap.size < W1.heap.size by have := HN.out; omega)))
 replace HR3 := Lib.hid (RowIs.keeps HR3.out (above_set (b := w.heap.size) (j := 6) (u := .slice ko x.d.traits.length kc) (show w.heap.size < W1.heap.size by have := HN.out; omega)))
 replace HR4 := Lib.hid (strs_keeps HR4.out (above_set (b := w.heap.size) (j := 6) (u := .slice ko x.d.traits.length kc) (show w.heap.size < W1.heap.size by have := HN.out; omega)))
 generalize v4.setCell ⟨w.heap.size, 6, none⟩ (.slice ko x.d.traits.length kc) = Y4 at HC HG HR1 HR2 HR3 HR4 ⊢
 obtain ⟨c0, c1, c2, c3, c4, c5, c6, cf⟩ := dcells7 HC.out.t0
 obtain ⟨g0, g1, g2, g3, g4, g5, g6, gf⟩ := dcells7 HC.out.t1
 go_wp2_with fail
 refine bodyPost_ret (v := .agg #[.string x.d.name, .slice io x.d.ins.length ic, .slice oo x.d.outs.length oc, .slice no x.d.needs.length nc, .int .i64 x.d.regions, .int .i64 x.d.succs, .slice ko x.d.traits.length kc]) (results_cell Tryz.results46 rfl (pdefVar (dset7_block HC.out.t1))) rfl ?_
 have hK := fun (N : Nat) (h : w.heap.size + 1 < N) (h2 : w.heap.size ≤ N) => dabove_to (N := N) (M := w.heap.size) (w := Y4) (b := w.heap.size + 1) (u0 := .string x.d.name) (u1 := .slice io x.d.ins.length ic) (u2 := .slice oo x.d.outs.length oc) (u3 := .slice no x.d.needs.length nc) (u4 := .int .i64 x.d.regions) (u5 := .int .i64 x.d.succs) (u6 := .slice ko x.d.traits.length kc) h h2
 have hK1 := hK W1.heap.size HN.out (by have := HN.out; omega)
 exact ⟨⟨x.d, io, ic, oo, oc, no, nc, ko, kc⟩, rfl, rfl, ⟨strs_keeps HR1.out hK1, strs_keeps HR2.out hK1, RowIs.keeps HR3.out hK1, strs_keeps HR4.out hK1, HQ1.out, HQ2.out, HQ3.out, HQ4.out⟩, dbelow_set7 HC.out.below (Nat.le_succ _)⟩
end Go.Proofs.YtgimdkgjfenafaaGreatDoor
