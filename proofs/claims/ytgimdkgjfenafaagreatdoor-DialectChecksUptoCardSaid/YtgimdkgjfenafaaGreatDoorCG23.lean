import Derived.Test.YtgimdkgjfenafaaGreatDoorCG16
import Derived.Test.YtgimdkgjfenafaaGreatDoorCG07
import Derived.Deep.Cut
import Derived.Deep.DeepCutAuto
namespace Go.Proofs.YtgimdkgjfenafaaGreatDoor
open Go.RowKit
abbrev Bnd := Int → Option ByteArray
def Cls.str (c : Cls) : ByteArray := ⟨c.word.toArray⟩
def shapedB (f : Bnd) (v : UInt8) : Bool := match f (v.toNat : Int) with
 | some s => s.data.toList == [109, 101, 109] || s.data.toList == [97, 114, 114]
 | none => false
def stepR (out : Bool) (n i : Nat) (r : Rule) (f : Bnd) : Option Bnd := match r with
 | .bad => none
 | .fixed _ => some f
 | .bind v c => if (f (v.toNat : Int)).isSome || out then none else some (setAt f (v.toNat : Int) c.str)
 | .same v => if (f (v.toNat : Int)).isSome then some f else none
 | .elem v => if shapedB f v then some f else none
 | .turn v => if shapedB f v then some f else none
 | .index v => if shapedB f v && !out then some f else none
 | .anys => if i + 1 = n then some f else none
 | .nums => if i + 1 = n then some f else none
def goR (out : Bool) (n : Nat) : Nat → List ByteArray → Bnd → Option Bnd
 | _, [], f => some f
 | i, s :: l, f => match stepR out n i (ruleOf s) f with
  | some f' => goR out n (i + 1) l f'
  | none => none
def rulesR (out : Bool) (l : List ByteArray) (f : Bnd) : Option Bnd := if l.length ≤ 10 then goR out l.length 0 l f else none
theorem goR_step {out : Bool} {n i : Nat} {l : List ByteArray} {s : ByteArray} {f f' : Bnd} (h : l[i]? = some s) (hs : stepR out n i (ruleOf s) f = some f') : goR out n i (l.drop i) f = goR out n (i + 1) (l.drop (i + 1)) f' := by
 obtain ⟨hl, hv⟩ := List.getElem?_eq_some_iff.1 h
 rw [List.drop_eq_getElem_cons hl, hv, goR, hs]
theorem goR_stop {out : Bool} {n i : Nat} {l : List ByteArray} {s : ByteArray} {f : Bnd} (h : l[i]? = some s) (hs : stepR out n i (ruleOf s) f = none) : goR out n i (l.drop i) f = none := by
 obtain ⟨hl, hv⟩ := List.getElem?_eq_some_iff.1 h
 rw [List.drop_eq_getElem_cons hl, hv, goR, hs]
def RulesPost (out : Bool) (l : List ByteArray) (mb c : Nat) (f : Bnd) (w : World) (e : Ending) (w' : World) : Prop := w.grownBy w' (some mb) ∧
 ∃ b, e = .returned (.bool b) ∧ b = (rulesR out l f).isSome ∧ ∀ f', rulesR out l f = some f' → MapS 5 9 .u8 w' mb (c + l.length) f'
theorem u8_key (v : UInt8) : (Lit.int .u8 (v.toNat : Int)).wf = true := by
 have := v.toNat_lt
 have e1 : IntKind.u8.min = 0 := by decide
 have e2 : IntKind.u8.max = 255 := by decide
 simp [Lit.wf, e1, e2]
 omega
theorem grown_tr {w w' w'' : World} {r : Option Nat} (h : w.grownBy w' r) (h' : w'.grownBy w'' r) : w.grownBy w'' r :=
 ⟨h'.os.trans h.os, h'.tape.trans h.tape, h'.output.trans h.output, Nat.le_trans h.size h'.size, fun k hk hne => (h'.block k (Nat.lt_of_lt_of_le hk h.size) hne).trans (h.block k hk hne)⟩
theorem grown_below {w w' : World} {r : Option Nat} (h : Below w.heap.size w w') : w.grownBy w' r := ⟨h.os, h.tape, h.output, h.size, fun k hk _ => h.block k hk⟩
theorem strs_grown {w w' : World} {mb : Nat} {o : Obj} {ao : Option Addr} {ss : List ByteArray} (h : StrsAt w ao ss) (hg : w.grownBy w' (some mb)) (hm : w.heap[mb]? = some o) (ho : o.isCells = false) : StrsAt w' ao ss := by
 rcases h with h | ⟨a, rfl, hc⟩
 ·exact .inl h
 ·refine .inr ⟨a, rfl, fun j hj => ?_⟩
  refine hg.cell (hc j hj) (fun e => ?_)
  have := hc j hj
  cases e
  unfold World.cell? at this
  rw [hm] at this
  cases o <;> simp_all [Obj.isCells]
end Go.Proofs.YtgimdkgjfenafaaGreatDoor
namespace Go.Proofs.YtgimdkgjfenafaaGreatDoor
open Go.RowKit
theorem MapS.obj {K E : TypeId} {q : IntKind} {w : World} {b c : Nat} {f : Bnd} (h : MapS K E q w b c f) : ∃ o, w.heap[b]? = some o ∧ o.isCells = false := by
 obtain ⟨n, D, ⟨es, clock, hb, _⟩, _⟩ := h
 exact ⟨_, hb, rfl⟩
theorem MapS.mono {K E : TypeId} {q : IntKind} {w : World} {b c c' : Nat} {f : Bnd} (h : MapS K E q w b c f) (hc : c ≤ c') : MapS K E q w b c' f := by
 obtain ⟨n, D, h1, h2, h3⟩ := h
 exact ⟨n, D, h1, Nat.le_trans h2 hc, h3⟩
structure RulS (out : Bool) (l : List ByteArray) (ao : Option Addr) (mb c : Nat) (f : Bnd) (w : World) (m : Nat) (f' : Bnd) (wr : World) : Prop where
 grown : w.grownBy wr (some mb)
 map : MapS 5 9 .u8 wr mb (c + m) f'
 so : goR out l.length 0 l f = goR out l.length m (l.drop m) f'
 strs : StrsAt wr ao l
theorem rulesR_none {out : Bool} {l : List ByteArray} {f : Bnd} (h : goR out l.length 0 l f = none) : rulesR out l f = none := by
 unfold rulesR
 rw [h]
 split <;> rfl
theorem rulesPost_no {out : Bool} {l : List ByteArray} {mb c : Nat} {f : Bnd} {w w' : World} (hg : w.grownBy w' (some mb)) (h : goR out l.length 0 l f = none) : RulesPost out l mb c f w (.returned (.bool false)) w' := by
 have hr := rulesR_none h
 exact ⟨hg, false, rfl, by rw [hr]; rfl, fun f' e => by rw [hr] at e; cases e⟩
theorem z_string (w : World) : (zeroValue 9).run Tryz.prog w = .ok (.string ⟨#[]⟩) w := by kernel_rfl
theorem shp_no {f : Bnd} {v : UInt8} (h : (f (v.toNat : Int)).isSome = false) : shapedB f v = false := by
 unfold shapedB
 cases hf : f (v.toNat : Int) with
 | none => rfl
 | some s => rw [hf] at h; cases h
theorem shp_yes {f : Bnd} {v : UInt8} (h : (f (v.toNat : Int)).isSome = true) : shapedB f v = (((f (v.toNat : Int)).getD ⟨#[]⟩).toList == [109, 101, 109] || ((f (v.toNat : Int)).getD ⟨#[]⟩).toList == [97, 114, 114]) := by
 unfold shapedB
 cases hf : f (v.toNat : Int) with
 | none => rw [hf] at h; cases h
 | some s => simp only [Option.getD_some, ByteArray.toList_eq]
set_option maxHeartbeats 16000000 in
set_option maxRecDepth 100000 in
theorem RRules_any (out : Bool) (ao : Option Addr) (l : List ByteArray) (c0 : Nat) (hl : l.length ≤ 9223372036854775806) (hsz : ∀ s ∈ l, s.size ≤ 9223372036854775807) (mb c : Nat) (f : Bnd) (hcl : c + l.length < 4611686018427387904) (w : World) (hs : StrsAt w ao l) (hm : MapS 5 9 .u8 w mb c f) :
  Calls Tryz.prog 51 #[.slice ao l.length c0, .map (some mb), .bool out] w (RulesPost out l mb c f w) := by
 have HS := Lib.hid hs
 have HM := Lib.hid hm
 have HSZ := Lib.hid hsz
 have HCL := Lib.hid hcl
 have hli : (l.length : Int) ≤ 9223372036854775806 := by omega
 clear hs hm hsz hcl hl
 go_enter Tryz.func51, Tryz.ntmps51
 go_wp2_with fail
 go_loopw [7] (fun i wr => ∃ (m : Nat) (f' : Bnd), m ≤ l.length ∧ i = .int .i64 m ∧ Hid (RulS out l ao mb c f w m f' wr)) (fun i _ => l.length - (intOf i).toNat)
 case atStart => exact ⟨0, f, Nat.zero_le _, rfl, ⟨rfl, rfl, rfl, Nat.le_refl _, fun _ _ _ => rfl⟩, HM.out, rfl, HS.out⟩
 case round =>
  obtain ⟨m, f', hmm, rfl, HR⟩ := hrel
  by_cases hlt : m < l.length
  rotate_left
  ·have hge : ¬ (m : Int) < (l.length : Int) := by omega
   have HSO := Lib.hid (show goR out l.length 0 l f = some f' by rw [HR.out.so, List.drop_eq_nil_of_le (by omega)]; rfl)
   obtain rfl : m = l.length := by omega
   clear hlt hmm
   by_cases h10 : l.length ≤ 10
   ·have h10i : (l.length : Int) ≤ 10 := by omega
    have HRR := Lib.hid (show rulesR out l f = some f' by unfold rulesR; rw [if_pos h10, HSO.out])
    clear h10
    go_wp2_with fail
    go_ret
    exact ⟨HR.out.grown, true, rfl, by rw [HRR.out]; rfl, fun g hg => by rw [HRR.out] at hg; cases hg; exact HR.out.map⟩
   ·have h10i : ¬ (l.length : Int) ≤ 10 := by omega
    have HRR := Lib.hid (show rulesR out l f = none by unfold rulesR; rw [if_neg h10])
    clear h10
    go_wp2_with fail
    go_ret
    exact ⟨HR.out.grown, false, rfl, by rw [HRR.out]; rfl, fun g hg => by rw [HRR.out] at hg; cases hg⟩
  rcases HR.out.strs with h0 | ⟨a, rfl, hc⟩
  ·rw [h0] at hlt; exact absurd hlt (Nat.not_lt_zero _)
  have hcm := hc m hlt
  have hz := List.getElem?_eq_getElem hlt
  rw [hz] at hcm
  have hzs := HSZ.out _ (List.getElem_mem hlt)
  generalize l[m]'hlt = z at hz hcm hzs
  replace hcm : wr.cell? (a.add m) = some (.string z) := hcm
  have HZ := Lib.hid hz
  have HZS := Lib.hid hzs
  have HLT := Lib.hid hlt
  have hlti : (m : Int) < (l.length : Int) := by omega
  clear hc hz hzs hlt hmm
  go_wp2_with fail
  refine (RReadRule_any z HZS.out wr).mono ?_
  rintro e w2 ⟨rfl, hb⟩
  have HB2 := Lib.hid hb
  clear hb hcm
  go_upto_region 5 with fail
  have HNB := Lib.hid (new_below w2 (.cells #[.int .i64 (ruleOf z).sortR, .int .u8 ((ruleOf z).v.toNat : Int), .string (ruleOf z).whatR] 119))
  have HT := Lib.hid (heap_alloc_new w2 (.cells #[.int .i64 (ruleOf z).sortR, .int .u8 ((ruleOf z).v.toNat : Int), .string (ruleOf z).whatR] 119))
  generalize w2.alloc (.cells #[.int .i64 (ruleOf z).sortR, .int .u8 ((ruleOf z).v.toNat : Int), .string (ruleOf z).whatR] 119) = W3 at HNB HT ⊢
  generalize w2.heap.size = D at HT ⊢
  have HB3 := Lib.hid (HB2.out.trans (HNB.out.mono HB2.out.size))
  have HG3 := Lib.hid (grown_tr HR.out.grown (grown_below HB3.out))
  have HM3 := Lib.hid (HR.out.map.below HB3.out)
  have HS3 := Lib.hid (HR.out.strs.below HB3.out)
  have HSO := Lib.hid HR.out.so
  have HMC := Lib.hid (show c + m < 4611686018427387904 by have := HCL.out; have := HLT.out; omega)
  clear HB2 HNB HB3 HR
  cases hr : ruleOf z with
  | bad =>
   have T3 := Lib.hid (show W3.heap[D]? = some (.cells #[.int .i64 0, .int .u8 0, .string ⟨#[]⟩] 119 (0, 0)) by have := HT.out; rw [hr] at this; exact this)
   obtain ⟨c0, c1, c2, cf⟩ := cells3 T3.out
   have hlk := HM3.out.ok Tryz.underlying115 Tryz.underlying5 Tryz.underlying9 (z_string _) (u8_key (0 : UInt8))
   rw [show ((0 : UInt8).toNat : Int) = 0 from rfl] at hlk
   have HSH0 := Lib.hid (shp_no (f := f') (v := (0 : UInt8)))
   have HSH1 := Lib.hid (shp_yes (f := f') (v := (0 : UInt8)))
   rw [show ((0 : UInt8).toNat : Int) = 0 from rfl] at HSH0 HSH1
   have HFV := Lib.hid (show setAt f' 0 ⟨#[]⟩ 0 = some ⟨#[]⟩ from setAt_same _ _ _)
   generalize hwv : ((f' 0).getD ⟨#[]⟩) = wv at hlk HSH1
   generalize his : (f' 0).isSome = is at hlk HSH0 HSH1
   generalize hsh : shapedB f' (0 : UInt8) = sh at HSH0 HSH1
   have HIS := Lib.hid his
   have HSHE := Lib.hid hsh
   have HRE := Lib.hid hr
   clear hwv his hsh hr HT HFV
   go_upto_region 6 with fail
   clear hlk
   go_cut [11] (fun x w' => x = .bool sh ∧ w' = W3)
   case first =>
    cases is with
    | false =>
     go_wp2_with fail
     go_meet
     exact ⟨by rw [HSH0.out (by trivial)], rfl⟩
    | true =>
     cases k1 : (wv.toList == [109, 101, 109])
     ·cases k2 : (wv.toList == [97, 114, 114])
      ·go_wp2_with fail
       go_meet
       exact ⟨by rw [HSH1.out (by trivial), k1, k2]; rfl, rfl⟩
      ·go_wp2_with fail
       go_meet
       exact ⟨by rw [HSH1.out (by trivial), k1, k2]; rfl, rfl⟩
     ·go_wp2_with fail
      go_meet
      exact ⟨by rw [HSH1.out (by trivial), k1]; rfl, rfl⟩
   case rest =>
   obtain ⟨rfl, rfl⟩ := hcut
   have hr := HRE.out
   have HN := Lib.hid (show goR out l.length 0 l f = none from HSO.out.trans (goR_stop HZ.out (by rw [hr]; rfl)))
   clear hr
   go_wp2_with fail
   go_ret
   exact rulesPost_no HG3.out HN.out
  | fixed t =>
   have T3 := Lib.hid (show W3.heap[D]? = some (.cells #[.int .i64 1, .int .u8 0, .string t] 119 (0, 0)) by have := HT.out; rw [hr] at this; exact this)
   obtain ⟨c0, c1, c2, cf⟩ := cells3 T3.out
   have hlk := HM3.out.ok Tryz.underlying115 Tryz.underlying5 Tryz.underlying9 (z_string _) (u8_key (0 : UInt8))
   rw [show ((0 : UInt8).toNat : Int) = 0 from rfl] at hlk
   have HSH0 := Lib.hid (shp_no (f := f') (v := (0 : UInt8)))
   have HSH1 := Lib.hid (shp_yes (f := f') (v := (0 : UInt8)))
   rw [show ((0 : UInt8).toNat : Int) = 0 from rfl] at HSH0 HSH1
   have HFV := Lib.hid (show setAt f' 0 ⟨#[]⟩ 0 = some ⟨#[]⟩ from setAt_same _ _ _)
   generalize hwv : ((f' 0).getD ⟨#[]⟩) = wv at hlk HSH1
   generalize his : (f' 0).isSome = is at hlk HSH0 HSH1
   generalize hsh : shapedB f' (0 : UInt8) = sh at HSH0 HSH1
   have HIS := Lib.hid his
   have HSHE := Lib.hid hsh
   have HRE := Lib.hid hr
   clear hwv his hsh hr HT HFV
   go_upto_region 6 with fail
   clear hlk
   go_cut [11] (fun x w' => x = .bool sh ∧ w' = W3)
   case first =>
    cases is with
    | false =>
     go_wp2_with fail
     go_meet
     exact ⟨by rw [HSH0.out (by trivial)], rfl⟩
    | true =>
     cases k1 : (wv.toList == [109, 101, 109])
     ·cases k2 : (wv.toList == [97, 114, 114])
      ·go_wp2_with fail
       go_meet
       exact ⟨by rw [HSH1.out (by trivial), k1, k2]; rfl, rfl⟩
      ·go_wp2_with fail
       go_meet
       exact ⟨by rw [HSH1.out (by trivial), k1, k2]; rfl, rfl⟩
     ·go_wp2_with fail
      go_meet
      exact ⟨by rw [HSH1.out (by trivial), k1]; rfl, rfl⟩
   case rest =>
   obtain ⟨rfl, rfl⟩ := hcut
   have hr := HRE.out
   have HN := Lib.hid (show goR out l.length 0 l f = goR out l.length (m + 1) (l.drop (m + 1)) f' from HSO.out.trans (goR_step HZ.out (by rw [hr]; rfl)))
   clear hr
   go_wp2_with fail
   go_roundw
   case rel => exact ⟨m + 1, f', HLT.out, by go_num, HG3.out, HM3.out.mono (by omega), HN.out, HS3.out⟩
   case measure => have := HLT.out; simp only [intOf]; omega
  | bind v cl =>
   have T3 := Lib.hid (show W3.heap[D]? = some (.cells #[.int .i64 2, .int .u8 (v.toNat : Int), .string cl.str] 119 (0, 0)) by have := HT.out; rw [hr] at this; exact this)
   obtain ⟨c0, c1, c2, cf⟩ := cells3 T3.out
   have hlk := HM3.out.ok Tryz.underlying115 Tryz.underlying5 Tryz.underlying9 (z_string _) (u8_key v)
   have HSH0 := Lib.hid (shp_no (f := f') (v := v))
   have HSH1 := Lib.hid (shp_yes (f := f') (v := v))
   have HFV := Lib.hid (show setAt f' (v.toNat : Int) ⟨#[]⟩ (v.toNat : Int) = some ⟨#[]⟩ from setAt_same _ _ _)
   generalize hwv : ((f' (v.toNat : Int)).getD ⟨#[]⟩) = wv at hlk HSH1
   generalize his : (f' (v.toNat : Int)).isSome = is at hlk HSH0 HSH1
   generalize hsh : shapedB f' v = sh at HSH0 HSH1
   have HIS := Lib.hid his
   have HSHE := Lib.hid hsh
   have HRE := Lib.hid hr
   clear hwv his hsh hr HT HFV
   go_upto_region 6 with fail
   clear hlk
   go_cut [11] (fun x w' => x = .bool sh ∧ w' = W3)
   case first =>
    cases is with
    | false =>
     go_wp2_with fail
     go_meet
     exact ⟨by rw [HSH0.out (by trivial)], rfl⟩
    | true =>
     cases k1 : (wv.toList == [109, 101, 109])
     ·cases k2 : (wv.toList == [97, 114, 114])
      ·go_wp2_with fail
       go_meet
       exact ⟨by rw [HSH1.out (by trivial), k1, k2]; rfl, rfl⟩
      ·go_wp2_with fail
       go_meet
       exact ⟨by rw [HSH1.out (by trivial), k1, k2]; rfl, rfl⟩
     ·go_wp2_with fail
      go_meet
      exact ⟨by rw [HSH1.out (by trivial), k1]; rfl, rfl⟩
   case rest =>
   obtain ⟨rfl, rfl⟩ := hcut
   have hr := HRE.out
   cases is with
   | true =>
    have HN := Lib.hid (show goR out l.length 0 l f = none from HSO.out.trans (goR_stop HZ.out (by rw [hr]; show (if (f' (v.toNat : Int)).isSome || out then none else _) = _; rw [HIS.out]; rfl)))
    clear hr
    go_wp2_with fail
    go_ret
    exact rulesPost_no HG3.out HN.out
   | false =>
    cases hout : out
    rotate_left
    ·subst hout
     have HN := Lib.hid (show goR true l.length 0 l f = none from HSO.out.trans (goR_stop HZ.out (by rw [hr]; show (if (f' (v.toNat : Int)).isSome || true then none else _) = _; rw [HIS.out]; rfl)))
     clear hr
     go_wp2_with fail
     go_ret
     exact rulesPost_no HG3.out HN.out
    subst hout
    have HN := Lib.hid (show goR false l.length 0 l f = goR false l.length (m + 1) (l.drop (m + 1)) (setAt f' (v.toNat : Int) cl.str) from HSO.out.trans (goR_step HZ.out (by rw [hr]; show (if (f' (v.toNat : Int)).isSome || false then none else _) = _; rw [HIS.out]; rfl)))
    have HCS := Lib.hid (show cl.str.size ≤ maxLen by cases cl <;> decide)
    clear hr
    go_wp2_with (at_mapUpdate; refine MapS.wp_put rfl _ _ _ 115 rfl HM3.out Tryz.underlying115 Tryz.underlying5 Tryz.underlying9 HMC.out (u8_key v) HCS.out rfl rfl rfl ?_; intro w5 hmp hgr; have HM5 := Lib.hid hmp; have HG5 := Lib.hid hgr; clear hmp hgr)
    obtain ⟨ob, ho1, ho2⟩ := HM3.out.obj
    have HS5 := Lib.hid (strs_grown HS3.out HG5.out ho1 ho2)
    clear ho1 ho2
    go_roundw
    case rel => exact ⟨m + 1, _, HLT.out, by go_num, grown_tr HG3.out HG5.out, HM5.out, HN.out, HS5.out⟩
    case measure => have := HLT.out; simp only [intOf]; omega
  | same v =>
   have T3 := Lib.hid (show W3.heap[D]? = some (.cells #[.int .i64 3, .int .u8 (v.toNat : Int), .string ⟨#[]⟩] 119 (0, 0)) by have := HT.out; rw [hr] at this; exact this)
   obtain ⟨c0, c1, c2, cf⟩ := cells3 T3.out
   have hlk := HM3.out.ok Tryz.underlying115 Tryz.underlying5 Tryz.underlying9 (z_string _) (u8_key v)
   have HSH0 := Lib.hid (shp_no (f := f') (v := v))
   have HSH1 := Lib.hid (shp_yes (f := f') (v := v))
   have HFV := Lib.hid (show setAt f' (v.toNat : Int) ⟨#[]⟩ (v.toNat : Int) = some ⟨#[]⟩ from setAt_same _ _ _)
   generalize hwv : ((f' (v.toNat : Int)).getD ⟨#[]⟩) = wv at hlk HSH1
   generalize his : (f' (v.toNat : Int)).isSome = is at hlk HSH0 HSH1
   generalize hsh : shapedB f' v = sh at HSH0 HSH1
   have HIS := Lib.hid his
   have HSHE := Lib.hid hsh
   have HRE := Lib.hid hr
   clear hwv his hsh hr HT HFV
   go_upto_region 6 with fail
   clear hlk
   go_cut [11] (fun x w' => x = .bool sh ∧ w' = W3)
   case first =>
    cases is with
    | false =>
     go_wp2_with fail
     go_meet
     exact ⟨by rw [HSH0.out (by trivial)], rfl⟩
    | true =>
     cases k1 : (wv.toList == [109, 101, 109])
     ·cases k2 : (wv.toList == [97, 114, 114])
      ·go_wp2_with fail
       go_meet
       exact ⟨by rw [HSH1.out (by trivial), k1, k2]; rfl, rfl⟩
      ·go_wp2_with fail
       go_meet
       exact ⟨by rw [HSH1.out (by trivial), k1, k2]; rfl, rfl⟩
     ·go_wp2_with fail
      go_meet
      exact ⟨by rw [HSH1.out (by trivial), k1]; rfl, rfl⟩
   case rest =>
   obtain ⟨rfl, rfl⟩ := hcut
   have hr := HRE.out
   cases is with
   | true =>
    have HN := Lib.hid (show goR out l.length 0 l f = goR out l.length (m + 1) (l.drop (m + 1)) f' from HSO.out.trans (goR_step HZ.out (by rw [hr]; show (if (f' (v.toNat : Int)).isSome then some f' else _) = _; rw [HIS.out]; rfl)))
    clear hr
    go_wp2_with fail
    go_roundw
    case rel => exact ⟨m + 1, f', HLT.out, by go_num, HG3.out, HM3.out.mono (by omega), HN.out, HS3.out⟩
    case measure => have := HLT.out; simp only [intOf]; omega
   | false =>
    have HN := Lib.hid (show goR out l.length 0 l f = none from HSO.out.trans (goR_stop HZ.out (by rw [hr]; show (if (f' (v.toNat : Int)).isSome then some f' else _) = _; rw [HIS.out]; rfl)))
    clear hr
    go_wp2_with fail
    go_ret
    exact rulesPost_no HG3.out HN.out
  | elem v =>
   have T3 := Lib.hid (show W3.heap[D]? = some (.cells #[.int .i64 4, .int .u8 (v.toNat : Int), .string ⟨#[]⟩] 119 (0, 0)) by have := HT.out; rw [hr] at this; exact this)
   obtain ⟨c0, c1, c2, cf⟩ := cells3 T3.out
   have hlk := HM3.out.ok Tryz.underlying115 Tryz.underlying5 Tryz.underlying9 (z_string _) (u8_key v)
   have HSH0 := Lib.hid (shp_no (f := f') (v := v))
   have HSH1 := Lib.hid (shp_yes (f := f') (v := v))
   have HFV := Lib.hid (show setAt f' (v.toNat : Int) ⟨#[]⟩ (v.toNat : Int) = some ⟨#[]⟩ from setAt_same _ _ _)
   generalize hwv : ((f' (v.toNat : Int)).getD ⟨#[]⟩) = wv at hlk HSH1
   generalize his : (f' (v.toNat : Int)).isSome = is at hlk HSH0 HSH1
   generalize hsh : shapedB f' v = sh at HSH0 HSH1
   have HIS := Lib.hid his
   have HSHE := Lib.hid hsh
   have HRE := Lib.hid hr
   clear hwv his hsh hr HT HFV
   go_upto_region 6 with fail
   clear hlk
   go_cut [11] (fun x w' => x = .bool sh ∧ w' = W3)
   case first =>
    cases is with
    | false =>
     go_wp2_with fail
     go_meet
     exact ⟨by rw [HSH0.out (by trivial)], rfl⟩
    | true =>
     cases k1 : (wv.toList == [109, 101, 109])
     ·cases k2 : (wv.toList == [97, 114, 114])
      ·go_wp2_with fail
       go_meet
       exact ⟨by rw [HSH1.out (by trivial), k1, k2]; rfl, rfl⟩
      ·go_wp2_with fail
       go_meet
       exact ⟨by rw [HSH1.out (by trivial), k1, k2]; rfl, rfl⟩
     ·go_wp2_with fail
      go_meet
      exact ⟨by rw [HSH1.out (by trivial), k1]; rfl, rfl⟩
   case rest =>
   obtain ⟨rfl, rfl⟩ := hcut
   have hr := HRE.out
   cases sh with
   | true =>
    have HN := Lib.hid (show goR out l.length 0 l f = goR out l.length (m + 1) (l.drop (m + 1)) f' from HSO.out.trans (goR_step HZ.out (by rw [hr]; show (if shapedB f' v then some f' else _) = _; rw [HSHE.out]; rfl)))
    clear hr
    go_wp2_with fail
    go_roundw
    case rel => exact ⟨m + 1, f', HLT.out, by go_num, HG3.out, HM3.out.mono (by omega), HN.out, HS3.out⟩
    case measure => have := HLT.out; simp only [intOf]; omega
   | false =>
    have HN := Lib.hid (show goR out l.length 0 l f = none from HSO.out.trans (goR_stop HZ.out (by rw [hr]; show (if shapedB f' v then some f' else _) = _; rw [HSHE.out]; rfl)))
    clear hr
    go_wp2_with fail
    go_ret
    exact rulesPost_no HG3.out HN.out
  | turn v =>
   have T3 := Lib.hid (show W3.heap[D]? = some (.cells #[.int .i64 5, .int .u8 (v.toNat : Int), .string ⟨#[]⟩] 119 (0, 0)) by have := HT.out; rw [hr] at this; exact this)
   obtain ⟨c0, c1, c2, cf⟩ := cells3 T3.out
   have hlk := HM3.out.ok Tryz.underlying115 Tryz.underlying5 Tryz.underlying9 (z_string _) (u8_key v)
   have HSH0 := Lib.hid (shp_no (f := f') (v := v))
   have HSH1 := Lib.hid (shp_yes (f := f') (v := v))
   have HFV := Lib.hid (show setAt f' (v.toNat : Int) ⟨#[]⟩ (v.toNat : Int) = some ⟨#[]⟩ from setAt_same _ _ _)
   generalize hwv : ((f' (v.toNat : Int)).getD ⟨#[]⟩) = wv at hlk HSH1
   generalize his : (f' (v.toNat : Int)).isSome = is at hlk HSH0 HSH1
   generalize hsh : shapedB f' v = sh at HSH0 HSH1
   have HIS := Lib.hid his
   have HSHE := Lib.hid hsh
   have HRE := Lib.hid hr
   clear hwv his hsh hr HT HFV
   go_upto_region 6 with fail
   clear hlk
   go_cut [11] (fun x w' => x = .bool sh ∧ w' = W3)
   case first =>
    cases is with
    | false =>
     go_wp2_with fail
     go_meet
     exact ⟨by rw [HSH0.out (by trivial)], rfl⟩
    | true =>
     cases k1 : (wv.toList == [109, 101, 109])
     ·cases k2 : (wv.toList == [97, 114, 114])
      ·go_wp2_with fail
       go_meet
       exact ⟨by rw [HSH1.out (by trivial), k1, k2]; rfl, rfl⟩
      ·go_wp2_with fail
       go_meet
       exact ⟨by rw [HSH1.out (by trivial), k1, k2]; rfl, rfl⟩
     ·go_wp2_with fail
      go_meet
      exact ⟨by rw [HSH1.out (by trivial), k1]; rfl, rfl⟩
   case rest =>
   obtain ⟨rfl, rfl⟩ := hcut
   have hr := HRE.out
   cases sh with
   | true =>
    have HN := Lib.hid (show goR out l.length 0 l f = goR out l.length (m + 1) (l.drop (m + 1)) f' from HSO.out.trans (goR_step HZ.out (by rw [hr]; show (if shapedB f' v then some f' else _) = _; rw [HSHE.out]; rfl)))
    clear hr
    go_wp2_with fail
    go_roundw
    case rel => exact ⟨m + 1, f', HLT.out, by go_num, HG3.out, HM3.out.mono (by omega), HN.out, HS3.out⟩
    case measure => have := HLT.out; simp only [intOf]; omega
   | false =>
    have HN := Lib.hid (show goR out l.length 0 l f = none from HSO.out.trans (goR_stop HZ.out (by rw [hr]; show (if shapedB f' v then some f' else _) = _; rw [HSHE.out]; rfl)))
    clear hr
    go_wp2_with fail
    go_ret
    exact rulesPost_no HG3.out HN.out
  | index v =>
   have T3 := Lib.hid (show W3.heap[D]? = some (.cells #[.int .i64 6, .int .u8 (v.toNat : Int), .string ⟨#[]⟩] 119 (0, 0)) by have := HT.out; rw [hr] at this; exact this)
   obtain ⟨c0, c1, c2, cf⟩ := cells3 T3.out
   have hlk := HM3.out.ok Tryz.underlying115 Tryz.underlying5 Tryz.underlying9 (z_string _) (u8_key v)
   have HSH0 := Lib.hid (shp_no (f := f') (v := v))
   have HSH1 := Lib.hid (shp_yes (f := f') (v := v))
   have HFV := Lib.hid (show setAt f' (v.toNat : Int) ⟨#[]⟩ (v.toNat : Int) = some ⟨#[]⟩ from setAt_same _ _ _)
   generalize hwv : ((f' (v.toNat : Int)).getD ⟨#[]⟩) = wv at hlk HSH1
   generalize his : (f' (v.toNat : Int)).isSome = is at hlk HSH0 HSH1
   generalize hsh : shapedB f' v = sh at HSH0 HSH1
   have HIS := Lib.hid his
   have HSHE := Lib.hid hsh
   have HRE := Lib.hid hr
   clear hwv his hsh hr HT HFV
   go_upto_region 6 with fail
   clear hlk
   go_cut [11] (fun x w' => x = .bool sh ∧ w' = W3)
   case first =>
    cases is with
    | false =>
     go_wp2_with fail
     go_meet
     exact ⟨by rw [HSH0.out (by trivial)], rfl⟩
    | true =>
     cases k1 : (wv.toList == [109, 101, 109])
     ·cases k2 : (wv.toList == [97, 114, 114])
      ·go_wp2_with fail
       go_meet
       exact ⟨by rw [HSH1.out (by trivial), k1, k2]; rfl, rfl⟩
      ·go_wp2_with fail
       go_meet
       exact ⟨by rw [HSH1.out (by trivial), k1, k2]; rfl, rfl⟩
     ·go_wp2_with fail
      go_meet
      exact ⟨by rw [HSH1.out (by trivial), k1]; rfl, rfl⟩
   case rest =>
   obtain ⟨rfl, rfl⟩ := hcut
   have hr := HRE.out
   cases sh with
   | false =>
    have HN := Lib.hid (show goR out l.length 0 l f = none from HSO.out.trans (goR_stop HZ.out (by rw [hr]; show (if shapedB f' v && !out then some f' else _) = _; rw [HSHE.out]; rfl)))
    clear hr
    go_wp2_with fail
    go_ret
    exact rulesPost_no HG3.out HN.out
   | true =>
    cases hout : out
    ·subst hout
     have HN := Lib.hid (show goR false l.length 0 l f = goR false l.length (m + 1) (l.drop (m + 1)) f' from HSO.out.trans (goR_step HZ.out (by rw [hr]; show (if shapedB f' v && !false then some f' else _) = _; rw [HSHE.out]; rfl)))
     clear hr
     go_wp2_with fail
     go_roundw
     case rel => exact ⟨m + 1, f', HLT.out, by go_num, HG3.out, HM3.out.mono (by omega), HN.out, HS3.out⟩
     case measure => have := HLT.out; simp only [intOf]; omega
    ·subst hout
     have HN := Lib.hid (show goR true l.length 0 l f = none from HSO.out.trans (goR_stop HZ.out (by rw [hr]; show (if shapedB f' v && !true then some f' else _) = _; rw [HSHE.out]; rfl)))
     clear hr
     go_wp2_with fail
     go_ret
     exact rulesPost_no HG3.out HN.out
  | anys =>
   have T3 := Lib.hid (show W3.heap[D]? = some (.cells #[.int .i64 7, .int .u8 0, .string ⟨#[]⟩] 119 (0, 0)) by have := HT.out; rw [hr] at this; exact this)
   obtain ⟨c0, c1, c2, cf⟩ := cells3 T3.out
   have hlk := HM3.out.ok Tryz.underlying115 Tryz.underlying5 Tryz.underlying9 (z_string _) (u8_key (0 : UInt8))
   rw [show ((0 : UInt8).toNat : Int) = 0 from rfl] at hlk
   have HSH0 := Lib.hid (shp_no (f := f') (v := (0 : UInt8)))
   have HSH1 := Lib.hid (shp_yes (f := f') (v := (0 : UInt8)))
   rw [show ((0 : UInt8).toNat : Int) = 0 from rfl] at HSH0 HSH1
   have HFV := Lib.hid (show setAt f' 0 ⟨#[]⟩ 0 = some ⟨#[]⟩ from setAt_same _ _ _)
   generalize hwv : ((f' 0).getD ⟨#[]⟩) = wv at hlk HSH1
   generalize his : (f' 0).isSome = is at hlk HSH0 HSH1
   generalize hsh : shapedB f' (0 : UInt8) = sh at HSH0 HSH1
   have HIS := Lib.hid his
   have HSHE := Lib.hid hsh
   have HRE := Lib.hid hr
   clear hwv his hsh hr HT HFV
   go_upto_region 6 with fail
   clear hlk
   go_cut [11] (fun x w' => x = .bool sh ∧ w' = W3)
   case first =>
    cases is with
    | false =>
     go_wp2_with fail
     go_meet
     exact ⟨by rw [HSH0.out (by trivial)], rfl⟩
    | true =>
     cases k1 : (wv.toList == [109, 101, 109])
     ·cases k2 : (wv.toList == [97, 114, 114])
      ·go_wp2_with fail
       go_meet
       exact ⟨by rw [HSH1.out (by trivial), k1, k2]; rfl, rfl⟩
      ·go_wp2_with fail
       go_meet
       exact ⟨by rw [HSH1.out (by trivial), k1, k2]; rfl, rfl⟩
     ·go_wp2_with fail
      go_meet
      exact ⟨by rw [HSH1.out (by trivial), k1]; rfl, rfl⟩
   case rest =>
   obtain ⟨rfl, rfl⟩ := hcut
   have hr := HRE.out
   by_cases hmn : m + 1 = l.length
   ·have e1 : (m : Int) = (l.length : Int) - 1 := by omega
    have e1b : ((m : Int) != (l.length : Int) - 1) = false := by rw [e1]; simp
    have HN := Lib.hid (show goR out l.length 0 l f = goR out l.length (m + 1) (l.drop (m + 1)) f' from HSO.out.trans (goR_step HZ.out (by rw [hr]; show (if m + 1 = l.length then some f' else _) = _; rw [if_pos hmn])))
    clear hr e1 hmn
    go_wp2_with fail
    go_roundw
    case rel => exact ⟨m + 1, f', HLT.out, by go_num, HG3.out, HM3.out.mono (by omega), HN.out, HS3.out⟩
    case measure => have := HLT.out; simp only [intOf]; omega
   ·have e1 : ¬ (m : Int) = (l.length : Int) - 1 := by omega
    have e1b : ((m : Int) != (l.length : Int) - 1) = true := by simp only [bne_iff_ne, ne_eq]; exact e1
    have HN := Lib.hid (show goR out l.length 0 l f = none from HSO.out.trans (goR_stop HZ.out (by rw [hr]; show (if m + 1 = l.length then some f' else _) = _; rw [if_neg hmn])))
    clear hr hmn
    go_wp2_with fail
    go_ret
    exact rulesPost_no HG3.out HN.out
  | nums =>
   have T3 := Lib.hid (show W3.heap[D]? = some (.cells #[.int .i64 8, .int .u8 0, .string ⟨#[]⟩] 119 (0, 0)) by have := HT.out; rw [hr] at this; exact this)
   obtain ⟨c0, c1, c2, cf⟩ := cells3 T3.out
   have hlk := HM3.out.ok Tryz.underlying115 Tryz.underlying5 Tryz.underlying9 (z_string _) (u8_key (0 : UInt8))
   rw [show ((0 : UInt8).toNat : Int) = 0 from rfl] at hlk
   have HSH0 := Lib.hid (shp_no (f := f') (v := (0 : UInt8)))
   have HSH1 := Lib.hid (shp_yes (f := f') (v := (0 : UInt8)))
   rw [show ((0 : UInt8).toNat : Int) = 0 from rfl] at HSH0 HSH1
   have HFV := Lib.hid (show setAt f' 0 ⟨#[]⟩ 0 = some ⟨#[]⟩ from setAt_same _ _ _)
   generalize hwv : ((f' 0).getD ⟨#[]⟩) = wv at hlk HSH1
   generalize his : (f' 0).isSome = is at hlk HSH0 HSH1
   generalize hsh : shapedB f' (0 : UInt8) = sh at HSH0 HSH1
   have HIS := Lib.hid his
   have HSHE := Lib.hid hsh
   have HRE := Lib.hid hr
   clear hwv his hsh hr HT HFV
   go_upto_region 6 with fail
   clear hlk
   go_cut [11] (fun x w' => x = .bool sh ∧ w' = W3)
   case first =>
    cases is with
    | false =>
     go_wp2_with fail
     go_meet
     exact ⟨by rw [HSH0.out (by trivial)], rfl⟩
    | true =>
     cases k1 : (wv.toList == [109, 101, 109])
     ·cases k2 : (wv.toList == [97, 114, 114])
      ·go_wp2_with fail
       go_meet
       exact ⟨by rw [HSH1.out (by trivial), k1, k2]; rfl, rfl⟩
      ·go_wp2_with fail
       go_meet
       exact ⟨by rw [HSH1.out (by trivial), k1, k2]; rfl, rfl⟩
     ·go_wp2_with fail
      go_meet
      exact ⟨by rw [HSH1.out (by trivial), k1]; rfl, rfl⟩
   case rest =>
   obtain ⟨rfl, rfl⟩ := hcut
   have hr := HRE.out
   by_cases hmn : m + 1 = l.length
   ·have e1 : (m : Int) = (l.length : Int) - 1 := by omega
    have e1b : ((m : Int) != (l.length : Int) - 1) = false := by rw [e1]; simp
    have HN := Lib.hid (show goR out l.length 0 l f = goR out l.length (m + 1) (l.drop (m + 1)) f' from HSO.out.trans (goR_step HZ.out (by rw [hr]; show (if m + 1 = l.length then some f' else _) = _; rw [if_pos hmn])))
    clear hr e1 hmn
    go_wp2_with fail
    go_roundw
    case rel => exact ⟨m + 1, f', HLT.out, by go_num, HG3.out, HM3.out.mono (by omega), HN.out, HS3.out⟩
    case measure => have := HLT.out; simp only [intOf]; omega
   ·have e1 : ¬ (m : Int) = (l.length : Int) - 1 := by omega
    have e1b : ((m : Int) != (l.length : Int) - 1) = true := by simp only [bne_iff_ne, ne_eq]; exact e1
    have HN := Lib.hid (show goR out l.length 0 l f = none from HSO.out.trans (goR_stop HZ.out (by rw [hr]; show (if m + 1 = l.length then some f' else _) = _; rw [if_neg hmn])))
    clear hr hmn
    go_wp2_with fail
    go_ret
    exact rulesPost_no HG3.out HN.out
end Go.Proofs.YtgimdkgjfenafaaGreatDoor
