import Derived.Test.YtgimdkgjfenafaaGreatDoorCG22
import Derived.Test.YtgimdkgjfenafaaGreatDoorCG23
import Derived.Deep.QuietTactic
import Derived.BigQuiet
namespace Go.Proofs.YtgimdkgjfenafaaGreatDoor
open Go.RowKit
abbrev BndC := Int → Option Cls
def clsNum (F : BndC) : Int → Option Int := fun x => (F x).map Cls.num'
def clsStr (F : BndC) : Bnd := fun x => (F x).map Cls.str
theorem clsNum_set (F : BndC) (x : Int) (c : Cls) : setAt (clsNum F) x c.num' = clsNum (setAt F x c) := by
 funext y
 show setAt _ _ _ y = (setAt F x c y).map _
 by_cases h : y = x
 ·subst h; rw [setAt_same, setAt_same]; rfl
 ·rw [setAt_other _ _ h, setAt_other _ _ h]; rfl
theorem clsStr_set (F : BndC) (x : Int) (c : Cls) : setAt (clsStr F) x c.str = clsStr (setAt F x c) := by
 funext y
 show setAt _ _ _ y = (setAt F x c y).map _
 by_cases h : y = x
 ·subst h; rw [setAt_same, setAt_same]; rfl
 ·rw [setAt_other _ _ h, setAt_other _ _ h]; rfl
def Cls.shaped : Cls → Bool
 | .mem => true | .arr => true | _ => false
def shapedC (F : BndC) (v : UInt8) : Bool := match F (v.toNat : Int) with
 | some c => c.shaped
 | none => false
def stepC (out : Bool) (n i : Nat) (r : Rule) (F : BndC) : Option BndC := match r with
 | .bad => none
 | .fixed _ => some F
 | .bind v c => if (F (v.toNat : Int)).isSome || out then none else some (setAt F (v.toNat : Int) c)
 | .same v => if (F (v.toNat : Int)).isSome then some F else none
 | .elem v => if shapedC F v then some F else none
 | .turn v => if shapedC F v then some F else none
 | .index v => if shapedC F v && !out then some F else none
 | .anys => if i + 1 = n then some F else none
 | .nums => if i + 1 = n then some F else none
def goC (out : Bool) (n : Nat) : Nat → List Rule → BndC → Option BndC
 | _, [], F => some F
 | i, r :: l, F => match stepC out n i r F with
  | some F' => goC out n (i + 1) l F'
  | none => none
theorem shaped_str (F : BndC) (v : UInt8) : shapedB (clsStr F) v = shapedC F v := by
 unfold shapedB shapedC clsStr
 cases F (v.toNat : Int) with
 | none => rfl
 | some c => cases c <;> rfl
theorem some_str (F : BndC) (x : Int) : (clsStr F x).isSome = (F x).isSome := by unfold clsStr; cases F x <;> rfl
theorem some_num (F : BndC) (x : Int) : (clsNum F x).isSome = (F x).isSome := by unfold clsNum; cases F x <;> rfl
theorem stepR_str (out : Bool) (n i : Nat) (r : Rule) (F : BndC) : stepR out n i r (clsStr F) = (stepC out n i r F).map clsStr := by
 cases r <;> simp only [stepR, stepC, shaped_str, some_str]
 all_goals first | rfl | (split <;> first | rfl | (rw [clsStr_set]; rfl))
theorem goR_str (out : Bool) (n : Nat) : ∀ (l : List ByteArray) (i : Nat) (F : BndC), goR out n i l (clsStr F) = (goC out n i (l.map ruleOf) F).map clsStr := by
 intro l
 induction l with
 | nil => intro i F; rfl
 | cons s l ih =>
  intro i F
  rw [goR, List.map_cons, goC, stepR_str]
  cases stepC out n i (ruleOf s) F with
  | none => rfl
  | some F' => exact ih (i + 1) F'
def Rule.inOnly : Rule → Bool
 | .bind _ _ => true | .index _ => true | _ => false
theorem stepC_out (n i : Nat) (r : Rule) (F : BndC) : stepC true n i r F = if r.inOnly then none else stepC false n i r F := by
 cases r <;> simp [stepC, Rule.inOnly]
theorem goC_out (n : Nat) : ∀ (l : List Rule) (i : Nat) (F : BndC), (goC true n i l F).isSome = ((goC false n i l F).isSome && !l.any Rule.inOnly) := by
 intro l
 induction l with
 | nil => intro i F; rfl
 | cons r l ih =>
  intro i F
  rw [goC, goC, stepC_out, List.any_cons]
  cases hr : r.inOnly
  ·rw [if_neg (by decide), Bool.false_or]
   cases stepC false n i r F with
   | none => rfl
   | some F' => exact ih (i + 1) F'
  ·rw [if_pos rfl, Bool.true_or, Bool.not_true, Bool.and_false]
   rfl
theorem goC_step {out : Bool} {n i : Nat} {l : List Rule} {r : Rule} {F F' : BndC} (h : l[i]? = some r) (hs : stepC out n i r F = some F') : goC out n i (l.drop i) F = goC out n (i + 1) (l.drop (i + 1)) F' := by
 obtain ⟨hl, hv⟩ := List.getElem?_eq_some_iff.1 h
 rw [List.drop_eq_getElem_cons hl, hv, goC, hs]
theorem goC_stop {out : Bool} {n i : Nat} {l : List Rule} {r : Rule} {F : BndC} (h : l[i]? = some r) (hs : stepC out n i r F = none) : goC out n i (l.drop i) F = none := by
 obtain ⟨hl, hv⟩ := List.getElem?_eq_some_iff.1 h
 rw [List.drop_eq_getElem_cons hl, hv, goC, hs]
theorem rule_len (r : Rule) : r.cells.length = 4 := rfl
theorem grown_keeps {w w' : World} {mb : Nat} {o : Obj} (hg : w.grownBy w' (some mb)) (hm : w.heap[mb]? = some o) (ho : o.isCells = false) : Keeps w w' := fun a v hx => by
 refine hg.cell hx (fun e => ?_)
 cases e
 unfold World.cell? at hx
 rw [hm] at hx
 cases o <;> simp_all [Obj.isCells]
theorem MapI.obj {K E : TypeId} {q : IntKind} {w : World} {b c : Nat} {f : Int → Option Int} (h : MapI K E q w b c f) : ∃ o, w.heap[b]? = some o ∧ o.isCells = false := by
 obtain ⟨n, D, ⟨es, clock, hb, _⟩, _⟩ := h
 exact ⟨_, hb, rfl⟩
theorem MapI.mono {K E : TypeId} {q : IntKind} {w : World} {b c c' : Nat} {f : Int → Option Int} (h : MapI K E q w b c f) (hc : c ≤ c') : MapI K E q w b c' f := by
 obtain ⟨n, D, h1, h2, h3⟩ := h
 exact ⟨n, D, h1, Nat.le_trans h2 hc, h3⟩
theorem z_class (w : World) : (zeroValue 123).run Tryz.prog w = .ok (.int .i64 0) w := by kernel_rfl
theorem i32_key (v : UInt8) : (Lit.int .i32 (v.toNat : Int)).wf = true := by
 have := v.toNat_lt
 have e1 : IntKind.i32.min = -2147483648 := by decide
 have e2 : IntKind.i32.max = 2147483647 := by decide
 simp [Lit.wf, e1, e2]
 omega
def BMap (w : World) (mb c : Nat) (F : BndC) : Prop := MapI 21 123 .i32 w mb c (clsNum F)
structure ArS (rs : List Rule) (ao : Option Addr) (mb c : Nat) (F : BndC) (w : World) (m : Nat) (F' : BndC) (wr : World) : Prop where
 grown : w.grownBy wr (some mb)
 map : BMap wr mb (c + m) F'
 so : goC false rs.length 0 rs F = goC false rs.length m (rs.drop m) F'
 row : RulesAt wr ao rs
def AreRightP (rs : List Rule) (mb c : Nat) (F : BndC) (w : World) (e : Ending) (w' : World) : Prop := w.grownBy w' (some mb) ∧
 e = .returned (.bool (goC false rs.length 0 rs F).isSome) ∧ ∀ F', goC false rs.length 0 rs F = some F' → BMap w' mb (c + rs.length) F'
theorem areRight_no {rs : List Rule} {mb c : Nat} {F : BndC} {w w' : World} (hg : w.grownBy w' (some mb)) (h : goC false rs.length 0 rs F = none) : AreRightP rs mb c F w (.returned (.bool false)) w' :=
 ⟨hg, by rw [h]; rfl, fun F' e => by rw [h] at e; cases e⟩
set_option maxHeartbeats 16000000 in
set_option maxRecDepth 100000 in
theorem areRight_any (ao : Option Addr) (rs : List Rule) (c0 : Nat) (hl : rs.length ≤ 1000) (mb c : Nat) (F : BndC) (hcl : c ≤ 1000000) (w : World) (hs : RulesAt w ao rs) (hm : BMap w mb c F) :
  Calls Tryz.prog 154 #[.slice ao rs.length c0, .map (some mb)] w (AreRightP rs mb c F w) := by
 have HS := Lib.hid hs
 have HM := Lib.hid hm
 have HCL := Lib.hid hcl
 have HL := Lib.hid hl
 have hli : (rs.length : Int) ≤ 1000 := by omega
 clear hs hm hcl hl
 go_enter Tryz.func154, Tryz.ntmps154
 go_wp2_with fail
 go_loopw [12] (fun i wr => ∃ (m : Nat) (F' : BndC), m ≤ rs.length ∧ i = .int .i64 m ∧ Hid (ArS rs ao mb c F w m F' wr)) (fun i _ => rs.length - (intOf i).toNat)
 case atStart => exact ⟨0, F, Nat.zero_le _, rfl, ⟨rfl, rfl, rfl, Nat.le_refl _, fun _ _ _ => rfl⟩, HM.out, rfl, HS.out⟩
 case round =>
  obtain ⟨m, F', hmm, rfl, HR⟩ := hrel
  by_cases hlt : m < rs.length
  rotate_left
  ·have hge : ¬ (m : Int) < (rs.length : Int) := by omega
   have HSO := Lib.hid (show goC false rs.length 0 rs F = some F' by rw [HR.out.so, List.drop_eq_nil_of_le (by omega)]; rfl)
   obtain rfl : m = rs.length := by omega
   clear hlt hmm
   go_wp2_with fail
   go_ret
   exact ⟨HR.out.grown, by rw [HSO.out]; rfl, fun G hg => by rw [HSO.out] at hg; cases hg; exact HR.out.map⟩
  have hz := List.getElem?_eq_getElem hlt
  obtain ⟨r, hr0⟩ : ∃ r, r = rs[m]'hlt := ⟨_, rfl⟩
  rw [← hr0] at hz
  clear hr0
  obtain ⟨bk, o, rfl, hc⟩ := RowIs.at rule_len HR.out.row hz
  have HZ := Lib.hid hz
  have HLT := Lib.hid hlt
  have hlti : (m : Int) < (rs.length : Int) := by omega
  have HMC := Lib.hid (show c + m < 4611686018427387904 by have := HCL.out; have := HL.out; omega)
  have HSO := Lib.hid HR.out.so
  clear hz hlt hmm
  cases r with
  | bad =>
   have HB3 := Lib.hid (new_below wr (.cells #[.int .i64 0, .int .i64 (0), .int .i32 0, .string ⟨#[]⟩] 125))
   have HT := Lib.hid (heap_alloc_new wr (.cells #[.int .i64 0, .int .i64 (0), .int .i32 0, .string ⟨#[]⟩] 125))
   have q0 := hc 0 (.int .i64 0) rfl
   have q1 := hc 1 (.int .i64 (0)) rfl
   have q2 := hc 2 (.int .i32 0) rfl
   have q3 := hc 3 (.string ⟨#[]⟩) rfl
   rw [Nat.add_zero] at q0
   clear hc
   go_upto_region 4 with fail
   clear q0 q1 q2 q3
   generalize wr.alloc (.cells #[.int .i64 0, .int .i64 (0), .int .i32 0, .string ⟨#[]⟩] 125) = W3 at HB3 HT ⊢
   generalize wr.heap.size = D at HT ⊢
   have HG3 := Lib.hid (grown_tr HR.out.grown (grown_below HB3.out))
   have HM3 := Lib.hid (show BMap W3 mb (c + m) F' from MapI.below HR.out.map HB3.out)
   have HS3 := Lib.hid (show RulesAt W3 _ rs from RowIs.below HR.out.row HB3.out)
   clear HB3 HR
   obtain ⟨c0, c1, c2, c3, cf⟩ := dcells4 HT.out
   have hlk := MapI.ok HM3.out Tryz.underlying228 Tryz.underlying21 Tryz.underlying123 (z_class _) (i32_key (0 : UInt8))
   rw [show ((0 : UInt8).toNat : Int) = 0 from rfl] at hlk
   rw [some_num] at hlk
   generalize ((clsNum F' 0).getD 0) = wv at hlk
   generalize (F' 0).isSome = is at hlk
   have HN := Lib.hid (show goC false rs.length 0 rs F = none from HSO.out.trans (goC_stop HZ.out (by rfl)))
   go_wp2_with fail
   go_ret
   exact areRight_no HG3.out HN.out
  | fixed t =>
   have HB3 := Lib.hid (new_below wr (.cells #[.int .i64 1, .int .i64 (0), .int .i32 0, .string t] 125))
   have HT := Lib.hid (heap_alloc_new wr (.cells #[.int .i64 1, .int .i64 (0), .int .i32 0, .string t] 125))
   have q0 := hc 0 (.int .i64 1) rfl
   have q1 := hc 1 (.int .i64 (0)) rfl
   have q2 := hc 2 (.int .i32 0) rfl
   have q3 := hc 3 (.string t) rfl
   rw [Nat.add_zero] at q0
   clear hc
   go_upto_region 4 with fail
   clear q0 q1 q2 q3
   generalize wr.alloc (.cells #[.int .i64 1, .int .i64 (0), .int .i32 0, .string t] 125) = W3 at HB3 HT ⊢
   generalize wr.heap.size = D at HT ⊢
   have HG3 := Lib.hid (grown_tr HR.out.grown (grown_below HB3.out))
   have HM3 := Lib.hid (show BMap W3 mb (c + m) F' from MapI.below HR.out.map HB3.out)
   have HS3 := Lib.hid (show RulesAt W3 _ rs from RowIs.below HR.out.row HB3.out)
   clear HB3 HR
   obtain ⟨c0, c1, c2, c3, cf⟩ := dcells4 HT.out
   have hlk := MapI.ok HM3.out Tryz.underlying228 Tryz.underlying21 Tryz.underlying123 (z_class _) (i32_key (0 : UInt8))
   rw [show ((0 : UInt8).toNat : Int) = 0 from rfl] at hlk
   rw [some_num] at hlk
   generalize ((clsNum F' 0).getD 0) = wv at hlk
   generalize (F' 0).isSome = is at hlk
   have HN := Lib.hid (show goC false rs.length 0 rs F = goC false rs.length (m + 1) (rs.drop (m + 1)) F' from HSO.out.trans (goC_step HZ.out (by rfl)))
   go_wp2_with fail
   go_roundw
   case rel => exact ⟨m + 1, F', HLT.out, by go_num, HG3.out, MapI.mono HM3.out (by omega), HN.out, HS3.out⟩
   case measure => have := HLT.out; simp only [intOf]; omega
  | bind v cl =>
   have HB3 := Lib.hid (new_below wr (.cells #[.int .i64 2, .int .i64 (cl.num'), .int .i32 (v.toNat : Int), .string ⟨#[]⟩] 125))
   have HT := Lib.hid (heap_alloc_new wr (.cells #[.int .i64 2, .int .i64 (cl.num'), .int .i32 (v.toNat : Int), .string ⟨#[]⟩] 125))
   have q0 := hc 0 (.int .i64 2) rfl
   have q1 := hc 1 (.int .i64 (cl.num')) rfl
   have q2 := hc 2 (.int .i32 (v.toNat : Int)) rfl
   have q3 := hc 3 (.string ⟨#[]⟩) rfl
   rw [Nat.add_zero] at q0
   clear hc
   go_upto_region 4 with fail
   clear q0 q1 q2 q3
   generalize wr.alloc (.cells #[.int .i64 2, .int .i64 (cl.num'), .int .i32 (v.toNat : Int), .string ⟨#[]⟩] 125) = W3 at HB3 HT ⊢
   generalize wr.heap.size = D at HT ⊢
   have HG3 := Lib.hid (grown_tr HR.out.grown (grown_below HB3.out))
   have HM3 := Lib.hid (show BMap W3 mb (c + m) F' from MapI.below HR.out.map HB3.out)
   have HS3 := Lib.hid (show RulesAt W3 _ rs from RowIs.below HR.out.row HB3.out)
   clear HB3 HR
   obtain ⟨c0, c1, c2, c3, cf⟩ := dcells4 HT.out
   have hlk := MapI.ok HM3.out Tryz.underlying228 Tryz.underlying21 Tryz.underlying123 (z_class _) (i32_key v)
   rw [some_num] at hlk
   generalize ((clsNum F' (v.toNat : Int)).getD 0) = wv at hlk
   cases his : (F' (v.toNat : Int)).isSome
   rotate_left
   ·rw [his] at hlk
    have HN := Lib.hid (show goC false rs.length 0 rs F = none from HSO.out.trans (goC_stop HZ.out (by show (if (F' (v.toNat : Int)).isSome || false then none else _) = none; rw [his]; rfl)))
    clear his
    have HCS := Lib.hid (show (Lit.int .i64 cl.num').wf = true by cases cl <;> decide)
    go_wp2_with (at_mapUpdate; refine MapI.wp_put rfl _ _ _ 228 rfl HM3.out Tryz.underlying228 Tryz.underlying21 Tryz.underlying123 HMC.out (i32_key v) HCS.out rfl rfl rfl ?_; intro w5 hmp hgr; have HG5 := Lib.hid hgr; clear hmp hgr)
    go_ret
    exact areRight_no (grown_tr HG3.out HG5.out) HN.out
   rw [his] at hlk
   have HN := Lib.hid (show goC false rs.length 0 rs F = goC false rs.length (m + 1) (rs.drop (m + 1)) (setAt F' (v.toNat : Int) cl) from HSO.out.trans (goC_step HZ.out (by show (if (F' (v.toNat : Int)).isSome || false then none else _) = _; rw [his]; rfl)))
   clear his
   have HCS := Lib.hid (show (Lit.int .i64 cl.num').wf = true by cases cl <;> decide)
   go_wp2_with (at_mapUpdate; refine MapI.wp_put rfl _ _ _ 228 rfl HM3.out Tryz.underlying228 Tryz.underlying21 Tryz.underlying123 HMC.out (i32_key v) HCS.out rfl rfl rfl ?_; intro w5 hmp hgr; have HM5 := Lib.hid hmp; have HG5 := Lib.hid hgr; clear hmp hgr)
   obtain ⟨ob, ho1, ho2⟩ := MapI.obj HM3.out
   have HS5 := Lib.hid (show RulesAt w5 _ rs from RowIs.keeps HS3.out (grown_keeps HG5.out ho1 ho2))
   clear ho1 ho2
   go_roundw
   case rel => exact ⟨m + 1, _, HLT.out, by go_num, grown_tr HG3.out HG5.out, by have := HM5.out; rw [clsNum_set] at this; exact this, HN.out, HS5.out⟩
   case measure => have := HLT.out; simp only [intOf]; omega
  | same v =>
   have HB3 := Lib.hid (new_below wr (.cells #[.int .i64 3, .int .i64 (0), .int .i32 (v.toNat : Int), .string ⟨#[]⟩] 125))
   have HT := Lib.hid (heap_alloc_new wr (.cells #[.int .i64 3, .int .i64 (0), .int .i32 (v.toNat : Int), .string ⟨#[]⟩] 125))
   have q0 := hc 0 (.int .i64 3) rfl
   have q1 := hc 1 (.int .i64 (0)) rfl
   have q2 := hc 2 (.int .i32 (v.toNat : Int)) rfl
   have q3 := hc 3 (.string ⟨#[]⟩) rfl
   rw [Nat.add_zero] at q0
   clear hc
   go_upto_region 4 with fail
   clear q0 q1 q2 q3
   generalize wr.alloc (.cells #[.int .i64 3, .int .i64 (0), .int .i32 (v.toNat : Int), .string ⟨#[]⟩] 125) = W3 at HB3 HT ⊢
   generalize wr.heap.size = D at HT ⊢
   have HG3 := Lib.hid (grown_tr HR.out.grown (grown_below HB3.out))
   have HM3 := Lib.hid (show BMap W3 mb (c + m) F' from MapI.below HR.out.map HB3.out)
   have HS3 := Lib.hid (show RulesAt W3 _ rs from RowIs.below HR.out.row HB3.out)
   clear HB3 HR
   obtain ⟨c0, c1, c2, c3, cf⟩ := dcells4 HT.out
   have hlk := MapI.ok HM3.out Tryz.underlying228 Tryz.underlying21 Tryz.underlying123 (z_class _) (i32_key v)
   rw [some_num] at hlk
   generalize ((clsNum F' (v.toNat : Int)).getD 0) = wv at hlk
   cases his : (F' (v.toNat : Int)).isSome
   ·rw [his] at hlk
    have HN := Lib.hid (show goC false rs.length 0 rs F = none from HSO.out.trans (goC_stop HZ.out (by show (if (F' (v.toNat : Int)).isSome then some F' else none) = none; rw [his]; rfl)))
    clear his
    go_wp2_with fail
    go_ret
    exact areRight_no HG3.out HN.out
   ·rw [his] at hlk
    have HN := Lib.hid (show goC false rs.length 0 rs F = goC false rs.length (m + 1) (rs.drop (m + 1)) F' from HSO.out.trans (goC_step HZ.out (by show (if (F' (v.toNat : Int)).isSome then some F' else none) = _; rw [his]; rfl)))
    clear his
    go_wp2_with fail
    go_roundw
    case rel => exact ⟨m + 1, F', HLT.out, by go_num, HG3.out, MapI.mono HM3.out (by omega), HN.out, HS3.out⟩
    case measure => have := HLT.out; simp only [intOf]; omega
  | elem v =>
   have HB3 := Lib.hid (new_below wr (.cells #[.int .i64 4, .int .i64 (0), .int .i32 (v.toNat : Int), .string ⟨#[]⟩] 125))
   have HT := Lib.hid (heap_alloc_new wr (.cells #[.int .i64 4, .int .i64 (0), .int .i32 (v.toNat : Int), .string ⟨#[]⟩] 125))
   have q0 := hc 0 (.int .i64 4) rfl
   have q1 := hc 1 (.int .i64 (0)) rfl
   have q2 := hc 2 (.int .i32 (v.toNat : Int)) rfl
   have q3 := hc 3 (.string ⟨#[]⟩) rfl
   rw [Nat.add_zero] at q0
   clear hc
   go_upto_region 4 with fail
   clear q0 q1 q2 q3
   generalize wr.alloc (.cells #[.int .i64 4, .int .i64 (0), .int .i32 (v.toNat : Int), .string ⟨#[]⟩] 125) = W3 at HB3 HT ⊢
   generalize wr.heap.size = D at HT ⊢
   have HG3 := Lib.hid (grown_tr HR.out.grown (grown_below HB3.out))
   have HM3 := Lib.hid (show BMap W3 mb (c + m) F' from MapI.below HR.out.map HB3.out)
   have HS3 := Lib.hid (show RulesAt W3 _ rs from RowIs.below HR.out.row HB3.out)
   clear HB3 HR
   obtain ⟨c0, c1, c2, c3, cf⟩ := dcells4 HT.out
   have hlk := MapI.ok HM3.out Tryz.underlying228 Tryz.underlying21 Tryz.underlying123 (z_class _) (i32_key v)
   have HSH := Lib.hid (show shapedC F' v = match F' (v.toNat : Int) with | some c => c.shaped | none => false from rfl)
   unfold clsNum at hlk
   rcases hF : F' (v.toNat : Int) with _ | cl
   ·rw [hF] at hlk
    replace hlk : _ = Result.ok (Value.tuple #[.int .i64 0, .bool false]) _ := hlk
    have HN := Lib.hid (show goC false rs.length 0 rs F = none from HSO.out.trans (goC_stop HZ.out (by show (if shapedC F' v then some F' else none) = _; rw [HSH.out, hF]; rfl)))
    clear hF HSH
    go_wp2_with fail
    go_ret
    exact areRight_no HG3.out HN.out
   ·rw [hF] at hlk
    cases cl
    case any =>
     replace hlk : _ = Result.ok (Value.tuple #[.int .i64 0, .bool true]) _ := hlk
     have HN := Lib.hid (show goC false rs.length 0 rs F = none from HSO.out.trans (goC_stop HZ.out (by show (if shapedC F' v then some F' else none) = _; rw [HSH.out, hF]; rfl)))
     clear hF HSH
     go_wp2_with fail
     go_ret
     exact areRight_no HG3.out HN.out
    case num =>
     replace hlk : _ = Result.ok (Value.tuple #[.int .i64 1, .bool true]) _ := hlk
     have HN := Lib.hid (show goC false rs.length 0 rs F = none from HSO.out.trans (goC_stop HZ.out (by show (if shapedC F' v then some F' else none) = _; rw [HSH.out, hF]; rfl)))
     clear hF HSH
     go_wp2_with fail
     go_ret
     exact areRight_no HG3.out HN.out
    case int =>
     replace hlk : _ = Result.ok (Value.tuple #[.int .i64 2, .bool true]) _ := hlk
     have HN := Lib.hid (show goC false rs.length 0 rs F = none from HSO.out.trans (goC_stop HZ.out (by show (if shapedC F' v then some F' else none) = _; rw [HSH.out, hF]; rfl)))
     clear hF HSH
     go_wp2_with fail
     go_ret
     exact areRight_no HG3.out HN.out
    case mem =>
     replace hlk : _ = Result.ok (Value.tuple #[.int .i64 3, .bool true]) _ := hlk
     have HN := Lib.hid (show goC false rs.length 0 rs F = goC false rs.length (m + 1) (rs.drop (m + 1)) F' from HSO.out.trans (goC_step HZ.out (by show (if shapedC F' v then some F' else none) = _; rw [HSH.out, hF]; rfl)))
     clear hF HSH
     go_wp2_with fail
     go_roundw
     case rel => exact ⟨m + 1, F', HLT.out, by go_num, HG3.out, MapI.mono HM3.out (by omega), HN.out, HS3.out⟩
     case measure => have := HLT.out; simp only [intOf]; omega
    case arr =>
     replace hlk : _ = Result.ok (Value.tuple #[.int .i64 4, .bool true]) _ := hlk
     have HN := Lib.hid (show goC false rs.length 0 rs F = goC false rs.length (m + 1) (rs.drop (m + 1)) F' from HSO.out.trans (goC_step HZ.out (by show (if shapedC F' v then some F' else none) = _; rw [HSH.out, hF]; rfl)))
     clear hF HSH
     go_wp2_with fail
     go_roundw
     case rel => exact ⟨m + 1, F', HLT.out, by go_num, HG3.out, MapI.mono HM3.out (by omega), HN.out, HS3.out⟩
     case measure => have := HLT.out; simp only [intOf]; omega
  | turn v =>
   have HB3 := Lib.hid (new_below wr (.cells #[.int .i64 5, .int .i64 (0), .int .i32 (v.toNat : Int), .string ⟨#[]⟩] 125))
   have HT := Lib.hid (heap_alloc_new wr (.cells #[.int .i64 5, .int .i64 (0), .int .i32 (v.toNat : Int), .string ⟨#[]⟩] 125))
   have q0 := hc 0 (.int .i64 5) rfl
   have q1 := hc 1 (.int .i64 (0)) rfl
   have q2 := hc 2 (.int .i32 (v.toNat : Int)) rfl
   have q3 := hc 3 (.string ⟨#[]⟩) rfl
   rw [Nat.add_zero] at q0
   clear hc
   go_upto_region 4 with fail
   clear q0 q1 q2 q3
   generalize wr.alloc (.cells #[.int .i64 5, .int .i64 (0), .int .i32 (v.toNat : Int), .string ⟨#[]⟩] 125) = W3 at HB3 HT ⊢
   generalize wr.heap.size = D at HT ⊢
   have HG3 := Lib.hid (grown_tr HR.out.grown (grown_below HB3.out))
   have HM3 := Lib.hid (show BMap W3 mb (c + m) F' from MapI.below HR.out.map HB3.out)
   have HS3 := Lib.hid (show RulesAt W3 _ rs from RowIs.below HR.out.row HB3.out)
   clear HB3 HR
   obtain ⟨c0, c1, c2, c3, cf⟩ := dcells4 HT.out
   have hlk := MapI.ok HM3.out Tryz.underlying228 Tryz.underlying21 Tryz.underlying123 (z_class _) (i32_key v)
   have HSH := Lib.hid (show shapedC F' v = match F' (v.toNat : Int) with | some c => c.shaped | none => false from rfl)
   unfold clsNum at hlk
   rcases hF : F' (v.toNat : Int) with _ | cl
   ·rw [hF] at hlk
    replace hlk : _ = Result.ok (Value.tuple #[.int .i64 0, .bool false]) _ := hlk
    have HN := Lib.hid (show goC false rs.length 0 rs F = none from HSO.out.trans (goC_stop HZ.out (by show (if shapedC F' v then some F' else none) = _; rw [HSH.out, hF]; rfl)))
    clear hF HSH
    go_wp2_with fail
    go_ret
    exact areRight_no HG3.out HN.out
   ·rw [hF] at hlk
    cases cl
    case any =>
     replace hlk : _ = Result.ok (Value.tuple #[.int .i64 0, .bool true]) _ := hlk
     have HN := Lib.hid (show goC false rs.length 0 rs F = none from HSO.out.trans (goC_stop HZ.out (by show (if shapedC F' v then some F' else none) = _; rw [HSH.out, hF]; rfl)))
     clear hF HSH
     go_wp2_with fail
     go_ret
     exact areRight_no HG3.out HN.out
    case num =>
     replace hlk : _ = Result.ok (Value.tuple #[.int .i64 1, .bool true]) _ := hlk
     have HN := Lib.hid (show goC false rs.length 0 rs F = none from HSO.out.trans (goC_stop HZ.out (by show (if shapedC F' v then some F' else none) = _; rw [HSH.out, hF]; rfl)))
     clear hF HSH
     go_wp2_with fail
     go_ret
     exact areRight_no HG3.out HN.out
    case int =>
     replace hlk : _ = Result.ok (Value.tuple #[.int .i64 2, .bool true]) _ := hlk
     have HN := Lib.hid (show goC false rs.length 0 rs F = none from HSO.out.trans (goC_stop HZ.out (by show (if shapedC F' v then some F' else none) = _; rw [HSH.out, hF]; rfl)))
     clear hF HSH
     go_wp2_with fail
     go_ret
     exact areRight_no HG3.out HN.out
    case mem =>
     replace hlk : _ = Result.ok (Value.tuple #[.int .i64 3, .bool true]) _ := hlk
     have HN := Lib.hid (show goC false rs.length 0 rs F = goC false rs.length (m + 1) (rs.drop (m + 1)) F' from HSO.out.trans (goC_step HZ.out (by show (if shapedC F' v then some F' else none) = _; rw [HSH.out, hF]; rfl)))
     clear hF HSH
     go_wp2_with fail
     go_roundw
     case rel => exact ⟨m + 1, F', HLT.out, by go_num, HG3.out, MapI.mono HM3.out (by omega), HN.out, HS3.out⟩
     case measure => have := HLT.out; simp only [intOf]; omega
    case arr =>
     replace hlk : _ = Result.ok (Value.tuple #[.int .i64 4, .bool true]) _ := hlk
     have HN := Lib.hid (show goC false rs.length 0 rs F = goC false rs.length (m + 1) (rs.drop (m + 1)) F' from HSO.out.trans (goC_step HZ.out (by show (if shapedC F' v then some F' else none) = _; rw [HSH.out, hF]; rfl)))
     clear hF HSH
     go_wp2_with fail
     go_roundw
     case rel => exact ⟨m + 1, F', HLT.out, by go_num, HG3.out, MapI.mono HM3.out (by omega), HN.out, HS3.out⟩
     case measure => have := HLT.out; simp only [intOf]; omega
  | index v =>
   have HB3 := Lib.hid (new_below wr (.cells #[.int .i64 6, .int .i64 (0), .int .i32 (v.toNat : Int), .string ⟨#[]⟩] 125))
   have HT := Lib.hid (heap_alloc_new wr (.cells #[.int .i64 6, .int .i64 (0), .int .i32 (v.toNat : Int), .string ⟨#[]⟩] 125))
   have q0 := hc 0 (.int .i64 6) rfl
   have q1 := hc 1 (.int .i64 (0)) rfl
   have q2 := hc 2 (.int .i32 (v.toNat : Int)) rfl
   have q3 := hc 3 (.string ⟨#[]⟩) rfl
   rw [Nat.add_zero] at q0
   clear hc
   go_upto_region 4 with fail
   clear q0 q1 q2 q3
   generalize wr.alloc (.cells #[.int .i64 6, .int .i64 (0), .int .i32 (v.toNat : Int), .string ⟨#[]⟩] 125) = W3 at HB3 HT ⊢
   generalize wr.heap.size = D at HT ⊢
   have HG3 := Lib.hid (grown_tr HR.out.grown (grown_below HB3.out))
   have HM3 := Lib.hid (show BMap W3 mb (c + m) F' from MapI.below HR.out.map HB3.out)
   have HS3 := Lib.hid (show RulesAt W3 _ rs from RowIs.below HR.out.row HB3.out)
   clear HB3 HR
   obtain ⟨c0, c1, c2, c3, cf⟩ := dcells4 HT.out
   have hlk := MapI.ok HM3.out Tryz.underlying228 Tryz.underlying21 Tryz.underlying123 (z_class _) (i32_key v)
   have HSH := Lib.hid (show shapedC F' v = match F' (v.toNat : Int) with | some c => c.shaped | none => false from rfl)
   unfold clsNum at hlk
   rcases hF : F' (v.toNat : Int) with _ | cl
   ·rw [hF] at hlk
    replace hlk : _ = Result.ok (Value.tuple #[.int .i64 0, .bool false]) _ := hlk
    have HN := Lib.hid (show goC false rs.length 0 rs F = none from HSO.out.trans (goC_stop HZ.out (by show (if shapedC F' v && !false then some F' else none) = _; rw [HSH.out, hF]; rfl)))
    clear hF HSH
    go_wp2_with fail
    go_ret
    exact areRight_no HG3.out HN.out
   ·rw [hF] at hlk
    cases cl
    case any =>
     replace hlk : _ = Result.ok (Value.tuple #[.int .i64 0, .bool true]) _ := hlk
     have HN := Lib.hid (show goC false rs.length 0 rs F = none from HSO.out.trans (goC_stop HZ.out (by show (if shapedC F' v && !false then some F' else none) = _; rw [HSH.out, hF]; rfl)))
     clear hF HSH
     go_wp2_with fail
     go_ret
     exact areRight_no HG3.out HN.out
    case num =>
     replace hlk : _ = Result.ok (Value.tuple #[.int .i64 1, .bool true]) _ := hlk
     have HN := Lib.hid (show goC false rs.length 0 rs F = none from HSO.out.trans (goC_stop HZ.out (by show (if shapedC F' v && !false then some F' else none) = _; rw [HSH.out, hF]; rfl)))
     clear hF HSH
     go_wp2_with fail
     go_ret
     exact areRight_no HG3.out HN.out
    case int =>
     replace hlk : _ = Result.ok (Value.tuple #[.int .i64 2, .bool true]) _ := hlk
     have HN := Lib.hid (show goC false rs.length 0 rs F = none from HSO.out.trans (goC_stop HZ.out (by show (if shapedC F' v && !false then some F' else none) = _; rw [HSH.out, hF]; rfl)))
     clear hF HSH
     go_wp2_with fail
     go_ret
     exact areRight_no HG3.out HN.out
    case mem =>
     replace hlk : _ = Result.ok (Value.tuple #[.int .i64 3, .bool true]) _ := hlk
     have HN := Lib.hid (show goC false rs.length 0 rs F = goC false rs.length (m + 1) (rs.drop (m + 1)) F' from HSO.out.trans (goC_step HZ.out (by show (if shapedC F' v && !false then some F' else none) = _; rw [HSH.out, hF]; rfl)))
     clear hF HSH
     go_wp2_with fail
     go_roundw
     case rel => exact ⟨m + 1, F', HLT.out, by go_num, HG3.out, MapI.mono HM3.out (by omega), HN.out, HS3.out⟩
     case measure => have := HLT.out; simp only [intOf]; omega
    case arr =>
     replace hlk : _ = Result.ok (Value.tuple #[.int .i64 4, .bool true]) _ := hlk
     have HN := Lib.hid (show goC false rs.length 0 rs F = goC false rs.length (m + 1) (rs.drop (m + 1)) F' from HSO.out.trans (goC_step HZ.out (by show (if shapedC F' v && !false then some F' else none) = _; rw [HSH.out, hF]; rfl)))
     clear hF HSH
     go_wp2_with fail
     go_roundw
     case rel => exact ⟨m + 1, F', HLT.out, by go_num, HG3.out, MapI.mono HM3.out (by omega), HN.out, HS3.out⟩
     case measure => have := HLT.out; simp only [intOf]; omega
  | anys =>
   have HB3 := Lib.hid (new_below wr (.cells #[.int .i64 7, .int .i64 (0), .int .i32 0, .string ⟨#[]⟩] 125))
   have HT := Lib.hid (heap_alloc_new wr (.cells #[.int .i64 7, .int .i64 (0), .int .i32 0, .string ⟨#[]⟩] 125))
   have q0 := hc 0 (.int .i64 7) rfl
   have q1 := hc 1 (.int .i64 (0)) rfl
   have q2 := hc 2 (.int .i32 0) rfl
   have q3 := hc 3 (.string ⟨#[]⟩) rfl
   rw [Nat.add_zero] at q0
   clear hc
   go_upto_region 4 with fail
   clear q0 q1 q2 q3
   generalize wr.alloc (.cells #[.int .i64 7, .int .i64 (0), .int .i32 0, .string ⟨#[]⟩] 125) = W3 at HB3 HT ⊢
   generalize wr.heap.size = D at HT ⊢
   have HG3 := Lib.hid (grown_tr HR.out.grown (grown_below HB3.out))
   have HM3 := Lib.hid (show BMap W3 mb (c + m) F' from MapI.below HR.out.map HB3.out)
   have HS3 := Lib.hid (show RulesAt W3 _ rs from RowIs.below HR.out.row HB3.out)
   clear HB3 HR
   obtain ⟨c0, c1, c2, c3, cf⟩ := dcells4 HT.out
   have hlk := MapI.ok HM3.out Tryz.underlying228 Tryz.underlying21 Tryz.underlying123 (z_class _) (i32_key (0 : UInt8))
   rw [show ((0 : UInt8).toNat : Int) = 0 from rfl] at hlk
   rw [some_num] at hlk
   generalize ((clsNum F' 0).getD 0) = wv at hlk
   generalize (F' 0).isSome = is at hlk
   by_cases hmn : m + 1 = rs.length
   ·have e1 : (m : Int) = (rs.length : Int) - 1 := by omega
    have e1b : ((m : Int) == (rs.length : Int) - 1) = true := by rw [e1]; simp
    have HN := Lib.hid (show goC false rs.length 0 rs F = goC false rs.length (m + 1) (rs.drop (m + 1)) F' from HSO.out.trans (goC_step HZ.out (by show (if m + 1 = rs.length then some F' else _) = _; rw [if_pos hmn])))
    clear e1 hmn
    go_wp2_with fail
    go_roundw
    case rel => exact ⟨m + 1, F', HLT.out, by go_num, HG3.out, MapI.mono HM3.out (by omega), HN.out, HS3.out⟩
    case measure => have := HLT.out; simp only [intOf]; omega
   ·have e1 : ¬ (m : Int) = (rs.length : Int) - 1 := by omega
    have e1b : ((m : Int) == (rs.length : Int) - 1) = false := by simp only [beq_eq_false_iff_ne, ne_eq]; exact e1
    have HN := Lib.hid (show goC false rs.length 0 rs F = none from HSO.out.trans (goC_stop HZ.out (by show (if m + 1 = rs.length then some F' else _) = _; rw [if_neg hmn])))
    clear hmn
    go_wp2_with fail
    go_ret
    exact areRight_no HG3.out HN.out
  | nums =>
   have HB3 := Lib.hid (new_below wr (.cells #[.int .i64 7, .int .i64 (1), .int .i32 0, .string ⟨#[]⟩] 125))
   have HT := Lib.hid (heap_alloc_new wr (.cells #[.int .i64 7, .int .i64 (1), .int .i32 0, .string ⟨#[]⟩] 125))
   have q0 := hc 0 (.int .i64 7) rfl
   have q1 := hc 1 (.int .i64 (1)) rfl
   have q2 := hc 2 (.int .i32 0) rfl
   have q3 := hc 3 (.string ⟨#[]⟩) rfl
   rw [Nat.add_zero] at q0
   clear hc
   go_upto_region 4 with fail
   clear q0 q1 q2 q3
   generalize wr.alloc (.cells #[.int .i64 7, .int .i64 (1), .int .i32 0, .string ⟨#[]⟩] 125) = W3 at HB3 HT ⊢
   generalize wr.heap.size = D at HT ⊢
   have HG3 := Lib.hid (grown_tr HR.out.grown (grown_below HB3.out))
   have HM3 := Lib.hid (show BMap W3 mb (c + m) F' from MapI.below HR.out.map HB3.out)
   have HS3 := Lib.hid (show RulesAt W3 _ rs from RowIs.below HR.out.row HB3.out)
   clear HB3 HR
   obtain ⟨c0, c1, c2, c3, cf⟩ := dcells4 HT.out
   have hlk := MapI.ok HM3.out Tryz.underlying228 Tryz.underlying21 Tryz.underlying123 (z_class _) (i32_key (0 : UInt8))
   rw [show ((0 : UInt8).toNat : Int) = 0 from rfl] at hlk
   rw [some_num] at hlk
   generalize ((clsNum F' 0).getD 0) = wv at hlk
   generalize (F' 0).isSome = is at hlk
   by_cases hmn : m + 1 = rs.length
   ·have e1 : (m : Int) = (rs.length : Int) - 1 := by omega
    have e1b : ((m : Int) == (rs.length : Int) - 1) = true := by rw [e1]; simp
    have HN := Lib.hid (show goC false rs.length 0 rs F = goC false rs.length (m + 1) (rs.drop (m + 1)) F' from HSO.out.trans (goC_step HZ.out (by show (if m + 1 = rs.length then some F' else _) = _; rw [if_pos hmn])))
    clear e1 hmn
    go_wp2_with fail
    go_roundw
    case rel => exact ⟨m + 1, F', HLT.out, by go_num, HG3.out, MapI.mono HM3.out (by omega), HN.out, HS3.out⟩
    case measure => have := HLT.out; simp only [intOf]; omega
   ·have e1 : ¬ (m : Int) = (rs.length : Int) - 1 := by omega
    have e1b : ((m : Int) == (rs.length : Int) - 1) = false := by simp only [beq_eq_false_iff_ne, ne_eq]; exact e1
    have HN := Lib.hid (show goC false rs.length 0 rs F = none from HSO.out.trans (goC_stop HZ.out (by show (if m + 1 = rs.length then some F' else _) = _; rw [if_neg hmn])))
    clear hmn
    go_wp2_with fail
    go_ret
    exact areRight_no HG3.out HN.out
end Go.Proofs.YtgimdkgjfenafaaGreatDoor
namespace Go.Proofs.YtgimdkgjfenafaaGreatDoor
open Go.RowKit
def exchL : List Rule → Bool
 | .bind v _ :: .same u :: _ => u.toNat == v.toNat
 | _ => false
theorem exchL_first {r0 : Rule} {l : List Rule} (h : (r0.sortP == 2) = false) : exchL (r0 :: l) = false := by
 cases r0 <;> first | rfl | exact absurd h (by simp [Rule.sortP])
theorem exchL_second {r0 r1 : Rule} {l : List Rule} (h : (r1.sortP == 3) = false) : exchL (r0 :: r1 :: l) = false := by
 cases r0 <;> first | rfl | (cases r1 <;> first | rfl | exact absurd h (by simp [Rule.sortP]))
set_option maxHeartbeats 8000000 in
set_option maxRecDepth 100000 in
theorem isExchangeable_any (ao : Option Addr) (rs : List Rule) (c : Nat) (hn : rs.length ≤ 1000) (w : World) (h : RulesAt w ao rs) :
  Calls Tryz.prog 132 #[.slice ao rs.length c] w fun e w' => e = .returned (.bool (exchL rs)) ∧ Below w.heap.size w w' := by
 have hni : (rs.length : Int) ≤ 1000 := by omega
 by_cases hl : 2 ≤ rs.length
 rotate_left
 ·have hli : ¬ (2 : Int) ≤ (rs.length : Int) := by omega
  have hlj : decide ((rs.length : Int) ≥ 2) = false := decide_eq_false (by omega)
  have HX := Lib.hid (show exchL rs = false by
   match rs, hl with
   | [], _ => rfl
   | [r], _ => cases r <;> rfl
   | _ :: _ :: _, hl => exact absurd (by simp) hl)
  clear hl h
  go_enter Tryz.func132, Tryz.ntmps132
  go_upto_region 1 with fail
  go_quiet (fail)
  go_wp2_with fail
  go_ret
  exact ⟨by rw [HX.out]; rfl, ⟨rfl, rfl, rfl, Nat.le_refl _, fun _ _ => rfl⟩⟩
 obtain ⟨r0, r1, l, rfl⟩ : ∃ r0 r1 l, rs = r0 :: r1 :: l := by
  match rs, hl with
  | r0 :: r1 :: l, _ => exact ⟨r0, r1, l, rfl⟩
  | [], hl => exact absurd hl (by decide)
  | [_], hl => exact absurd hl (by simp)
 obtain ⟨bk, o, rfl, hc⟩ := RowIs.at rule_len h (j := 0) rfl
 obtain ⟨bk', o', e', hc'⟩ := RowIs.at rule_len h (j := 1) rfl
 cases e'
 have hlj : decide (((r0 :: r1 :: l).length : Int) ≥ 2) = true := decide_eq_true (by omega)
 have hl1 : (1 : Int) < ((r0 :: r1 :: l).length : Int) := by omega
 have hl0 : (0 : Int) < ((r0 :: r1 :: l).length : Int) := by omega
 have p0 := hc 0 _ rfl
 have p2 := hc 2 _ rfl
 rw [Nat.zero_mul, Nat.add_zero] at p0 p2
 have q0 := hc' 0 _ rfl
 have q1 := hc' 1 _ rfl
 have q2 := hc' 2 _ rfl
 have q3 := hc' 3 _ rfl
 rw [Nat.one_mul, Nat.add_zero] at q0
 rw [Nat.one_mul] at q1 q2 q3
 clear hc hc' h hl
 have HL := Lib.hid (rfl : exchL (r0 :: r1 :: l) = exchL (r0 :: r1 :: l))
 generalize hlen : (r0 :: r1 :: l).length = n at hni hlj hl1 hl0 ⊢
 clear hlen
 cases h0 : (r0.sortP == 2)
 ·have HX := Lib.hid (exchL_first (l := r1 :: l) h0)
  generalize r0.sortP = s0 at h0 p0
  clear p2 q0 q1 q2 q3
  go_enter Tryz.func132, Tryz.ntmps132
  go_upto_region 1 with fail
  go_quiet (fail)
  go_wp2_with fail
  go_ret
  exact ⟨by rw [HX.out]; rfl, ⟨rfl, rfl, rfl, Nat.le_refl _, fun _ _ => rfl⟩⟩
 cases h1 : (r1.sortP == 3)
 ·have HX := Lib.hid (exchL_second (r0 := r0) (l := l) h1)
  generalize r0.sortP = s0 at h0 p0
  generalize r1.sortP = s1 at h1 q0
  generalize r1.clsP = s2 at q1
  generalize (r1.v.toNat : Int) = s3 at q2
  generalize r1.textP = s4 at q3
  generalize (r0.v.toNat : Int) = s5 at p2
  go_enter Tryz.func132, Tryz.ntmps132
  go_upto_region 1 with fail
  go_quiet (fail)
  go_wp2_with fail
  go_ret
  exact ⟨by rw [HX.out]; rfl, ⟨rfl, rfl, rfl, Nat.le_refl _, fun _ _ => rfl⟩⟩
 obtain ⟨v, k, rfl⟩ : ∃ v k, r0 = .bind v k := by
  cases r0 <;> first | exact ⟨_, _, rfl⟩ | exact absurd h0 (by simp [Rule.sortP])
 obtain ⟨u, rfl⟩ : ∃ u, r1 = .same u := by
  cases r1 <;> first | exact ⟨_, rfl⟩ | exact absurd h1 (by simp [Rule.sortP])
 clear h0 h1
 replace p0 : w.cell? ⟨bk, o, none⟩ = some (.int .i64 2) := p0
 replace p2 : w.cell? ⟨bk, o + 2, none⟩ = some (.int .i32 (v.toNat : Int)) := p2
 replace q0 : w.cell? ⟨bk, o + 4, none⟩ = some (.int .i64 3) := q0
 replace q1 : w.cell? ⟨bk, o + 4 + 1, none⟩ = some (.int .i64 0) := q1
 replace q2 : w.cell? ⟨bk, o + 4 + 2, none⟩ = some (.int .i32 (u.toNat : Int)) := q2
 replace q3 : w.cell? ⟨bk, o + 4 + 3, none⟩ = some (.string ⟨#[]⟩) := q3
 have HX := Lib.hid (show exchL (.bind v k :: .same u :: l) = ((u.toNat : Int) == (v.toNat : Int)) by
  show (u.toNat == v.toNat) = _
  rw [Bool.eq_iff_iff]
  simp only [beq_iff_eq]
  omega)
 generalize (u.toNat : Int) = x at q2 HX
 generalize (v.toNat : Int) = y at p2 HX
 cases hxy : (x == y)
 ·have HY := Lib.hid hxy
  go_enter Tryz.func132, Tryz.ntmps132
  go_upto_region 1 with fail
  go_quiet (fail)
  go_wp2_with fail
  go_ret
  exact ⟨by rw [HX.out, HY.out]; rfl, ⟨rfl, rfl, rfl, Nat.le_refl _, fun _ _ => rfl⟩⟩
 ·have HY := Lib.hid hxy
  go_enter Tryz.func132, Tryz.ntmps132
  go_upto_region 1 with fail
  go_quiet (fail)
  go_wp2_with fail
  go_ret
  exact ⟨by rw [HX.out, HY.out]; rfl, ⟨rfl, rfl, rfl, Nat.le_refl _, fun _ _ => rfl⟩⟩
end Go.Proofs.YtgimdkgjfenafaaGreatDoor
