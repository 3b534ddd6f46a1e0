import Derived.Test.YtgimdkgjfenafaaGreatDoorCG19
import Derived.Test.YtgimdkgjfenafaaGreatDoorCG13
import Derived.Test.YtgimdkgjfenafaaGreatDoorCG24
import Derived.Deep.RegionHeld3
namespace Go.Proofs.YtgimdkgjfenafaaGreatDoor
open Go.RowKit
def kindS (s : ByteArray) : Int := match readR s.data.toList with | some (k, _, _, _) => k | none => 0
def rankS (s : ByteArray) : Nat := match readR s.data.toList with | some (_, _, es, _) => es.length | none => 0
def elS (s : ByteArray) : ByteArray := match readR s.data.toList with | some (_, _, _, el) => ⟨el.toArray⟩ | none => ⟨#[]⟩
def turnS (s : ByteArray) : ByteArray := match readR s.data.toList with | some (k, _, es, el) => if k = 2 ∨ k = 3 then ⟨(makeL (5 - k) es el).2.toArray⟩ else ⟨#[]⟩ | none => ⟨#[]⟩
theorem agree_ty' (s : ByteArray) : (readR s.data.toList = none ∧ NoTy s) ∨ ∃ (k b : Int) (r : Nat) (e0 e1 e2 : Int) (el : ByteArray), r ≤ 3 ∧ readR s.data.toList = some (k, b, [e0, e1, e2].take r, el.data.toList) ∧ Ty s k b r e0 e1 e2 el := by
 rcases agree s.data.toList with ⟨h1, h2⟩ | ⟨k, b, r, e0, e1, e2, el, hr, h1, h2, h3⟩
 ·exact .inl ⟨h1, h2⟩
 ·exact .inr ⟨k, b, r, e0, e1, e2, ⟨el.toArray⟩, hr, h1, h2, h3⟩
theorem made_text' {k : Int} {r : Nat} (hr : r ≤ 3) {e0 e1 e2 : Int} (h0 : 0 ≤ e0 ∧ e0 ≤ 1000) (h1 : 0 ≤ e1 ∧ e1 ≤ 1000) (h2 : 0 ≤ e2 ∧ e2 ≤ 1000) {el : List UInt8} (hn : numB el = true) (hp : prodN r e0 e1 e2 ≤ 4096) :
  makeL k ([e0, e1, e2].take r) el = (0, textSpec k r ⟨e0, h0⟩ ⟨e1, h1⟩ ⟨e2, h2⟩ el) := by
 rw [show [e0, e1, e2].take r = ext3 r ⟨e0, h0⟩ ⟨e1, h1⟩ ⟨e2, h2⟩ from rfl, ← makeL_rest k hr, makeRest, if_neg (by rw [hn]; simp), if_neg (by show ¬ 4096 < prodN r e0 e1 e2; omega)]
theorem numB_size' {el : ByteArray} (h : numB el.data.toList = true) : el.size ≤ 1000000 := by
 have := numB_len h
 rw [size_eq]
 omega
def WithErr (v : Value) (w : World) (e : Ending) (w' : World) : Prop := (∃ x : Int, e = .returned (.tuple #[v, .int .i64 x])) ∧ Below w.heap.size w w'
theorem rank_le (s : ByteArray) : rankS s ≤ 3 := by
 rcases agree_ty' s with ⟨hn, _⟩ | ⟨k, b, r, e0, e1, e2, el, hr, hn, _⟩
 ·unfold rankS; rw [hn]; exact Nat.zero_le _
 ·unfold rankS; rw [hn]; show (List.take r [e0, e1, e2]).length ≤ 3; rw [List.length_take]; simp; omega
theorem KindOf_is (s : ByteArray) (w : World) (hE : Env w) : Calls Tryz.prog 135 #[.string s] w (WithErr (.int .i64 (kindS s)) w) := by
 rcases agree_ty' s with ⟨hn, hno⟩ | ⟨k, b, r, e0, e1, e2, el, hr, hn, hT⟩
 ·unfold kindS; rw [hn]; exact (KindOf_no hno w hE).mono fun e w' ⟨he, hb⟩ => ⟨⟨_, he⟩, hb⟩
 ·unfold kindS; rw [hn]; exact (KindOf_yes hT w hE).mono fun e w' ⟨he, hb⟩ => ⟨⟨_, he⟩, hb⟩
theorem Rank_is (s : ByteArray) (w : World) (hE : Env w) : Calls Tryz.prog 85 #[.string s] w (WithErr (.int .i64 (rankS s)) w) := by
 rcases agree_ty' s with ⟨hn, hno⟩ | ⟨k, b, r, e0, e1, e2, el, hr, hn, hT⟩
 ·unfold rankS; rw [hn]; exact (Rank_no hno w hE).mono fun e w' ⟨he, hb⟩ => ⟨⟨_, he⟩, hb⟩
 ·have hl : (List.take r [e0, e1, e2]).length = r := by rw [List.length_take]; simp; omega
  have e1' : rankS s = r := by unfold rankS; rw [hn]; exact hl
  rw [e1']
  by_cases hk : k = 2 ∨ k = 3
  ·exact (Rank_yes hT hk w hE).mono fun e w' ⟨he, hb⟩ => ⟨⟨_, he⟩, hb⟩
  ·obtain rfl : r = 0 := ((desc_wf hT.is).2.2.2.2.2.2.2 hk).1
   exact (Rank_arg hT hk w hE).mono fun e w' ⟨he, hb⟩ => ⟨⟨_, he⟩, hb⟩
theorem Element_is (s : ByteArray) (w : World) (hE : Env w) : Calls Tryz.prog 92 #[.string s] w (WithErr (.string (elS s)) w) := by
 rcases agree_ty' s with ⟨hn, hno⟩ | ⟨k, b, r, e0, e1, e2, el, hr, hn, hT⟩
 ·unfold elS; rw [hn]; exact (Element_no hno w hE).mono fun e w' ⟨he, hb⟩ => ⟨⟨_, he⟩, hb⟩
 ·have e1' : elS s = el := by unfold elS; rw [hn]
  rw [e1']
  by_cases hk : k = 2 ∨ k = 3
  ·exact (Element_yes hT hk w hE).mono fun e w' ⟨he, hb⟩ => ⟨⟨_, he⟩, hb⟩
  ·have h := ((desc_wf hT.is).2.2.2.2.2.2.2 hk).2.2.2.2
   rw [show el = ⟨#[]⟩ from bytes_eq h]
   exact (Element_arg hT hk w hE).mono fun e w' ⟨he, hb⟩ => ⟨⟨_, he⟩, hb⟩
theorem Turned_is (s : ByteArray) (w : World) (hE : Env w) : Calls Tryz.prog 93 #[.string s] w (WithErr (.string (turnS s)) w) := by
 rcases agree_ty' s with ⟨hn, hno⟩ | ⟨k, b, r, e0, e1, e2, el, hr, hn, hT⟩
 ·unfold turnS; rw [hn]; exact (Turned_no hno w hE).mono fun e w' ⟨he, hb⟩ => ⟨⟨_, he⟩, hb⟩
 ·obtain ⟨-, -, -, h0, h1, h2, h4, -⟩ := desc_wf hT.is
  by_cases hk : k = 2 ∨ k = 3
  ·obtain ⟨-, hp, hnum⟩ := h4 hk
   have e1' : turnS s = ⟨(textSpec (5 - k) r ⟨e0, h0⟩ ⟨e1, h1⟩ ⟨e2, h2⟩ el.data.toList).toArray⟩ := by
    unfold turnS; rw [hn]
    show (if k = 2 ∨ k = 3 then _ else _) = _
    rw [if_pos hk, made_text' hr h0 h1 h2 hnum hp]
   rw [e1']
   rcases hk with rfl | rfl
   ·exact (Turned_2 hT h0 h1 h2 hr (numB_size' hnum) w hE).mono fun e w' ⟨he, hb⟩ => ⟨⟨_, he⟩, hb⟩
   ·exact (Turned_3 hT h0 h1 h2 hr (numB_size' hnum) w hE).mono fun e w' ⟨he, hb⟩ => ⟨⟨_, he⟩, hb⟩
  ·have e1' : turnS s = ⟨#[]⟩ := by
    unfold turnS; rw [hn]
    show (if k = 2 ∨ k = 3 then _ else _) = _
    rw [if_neg hk]
   rw [e1']
   exact (Turned_arg hT hk w hE).mono fun e w' ⟨he, hb⟩ => ⟨⟨_, he⟩, hb⟩
def ofC (s : ByteArray) : Cls → Bool
 | .int => kindS s == 0
 | .num => kindS s == 0 || kindS s == 1
 | .mem => kindS s == 2
 | .arr => kindS s == 3
 | .any => true
set_option maxHeartbeats 1000000 in
set_option maxRecDepth 100000 in
theorem isOf_any (s : ByteArray) (c : Cls) (w : World) (hE : Env w) :
  Calls Tryz.prog 86 #[.string s, .int .i64 c.num'] w fun e w' => e = .returned (.bool (ofC s c)) ∧ Below w.heap.size w w' := by
 obtain ⟨k, hk⟩ : ∃ k, k = kindS s := ⟨_, rfl⟩
 have HK := Lib.hid (KindOf_is s w hE)
 rw [← hk] at HK
 have HKE := Lib.hid hk.symm
 clear hE hk
 cases c <;> dsimp only [Cls.num'] <;>
 ·go_enter Tryz.func86, Tryz.ntmps86
  go_wp2_with fail
  refine HK.out.mono ?_
  rintro e w1 ⟨⟨x, rfl⟩, hb⟩
  have B1 := Lib.hid hb
  clear hb HK
  by_cases h0 : k = 0
  ·subst h0
   go_wp2_with fail
   go_ret
   exact ⟨by unfold ofC; first | rfl | (rw [HKE.out]; rfl), B1.out⟩
  by_cases h1 : k = 1
  ·subst h1
   go_wp2_with fail
   go_ret
   exact ⟨by unfold ofC; first | rfl | (rw [HKE.out]; rfl), B1.out⟩
  by_cases h2 : k = 2
  ·subst h2
   go_wp2_with fail
   go_ret
   exact ⟨by unfold ofC; first | rfl | (rw [HKE.out]; rfl), B1.out⟩
  by_cases h3 : k = 3
  ·subst h3
   go_wp2_with fail
   go_ret
   exact ⟨by unfold ofC; first | rfl | (rw [HKE.out]; rfl), B1.out⟩
  have q0 : (k == 0) = false := beq_eq_false_iff_ne.2 h0
  have q1 : (k == 1) = false := beq_eq_false_iff_ne.2 h1
  have q2 : (k == 2) = false := beq_eq_false_iff_ne.2 h2
  have q3 : (k == 3) = false := beq_eq_false_iff_ne.2 h3
  have HQ := Lib.hid (And.intro q0 (And.intro q1 (And.intro q2 q3)))
  go_wp2_with fail
  go_ret
  exact ⟨by unfold ofC; first | rfl | (rw [HKE.out]; first | (rw [HQ.out.1, HQ.out.2.1]; rfl) | (rw [HQ.out.1]; rfl) | (rw [HQ.out.2.2.1]; rfl) | (rw [HQ.out.2.2.2]; rfl)), B1.out⟩
end Go.Proofs.YtgimdkgjfenafaaGreatDoor
namespace Go.Proofs.YtgimdkgjfenafaaGreatDoor
open Go.RowKit
def noB : Bnd := fun _ => none
def vS (F : Bnd) (v : UInt8) : ByteArray := (F (v.toNat : Int)).getD ⟨#[]⟩
def indexS : ByteArray := ⟨#[105, 110, 100, 101, 120]⟩
def Rule.count (F : Bnd) (left : Nat) : Rule → Nat
 | .anys => left | .nums => left | .index v => rankS (vS F v) | _ => 1
def Rule.binds (t : ByteArray) (F : Bnd) : Rule → Bnd
 | .bind v _ => setAt F (v.toNat : Int) t | _ => F
def spreadL (l : List ByteArray) : List Rule → Bnd → List Rule → Option (List Rule)
 | [], _, each => if each.length = l.length then some each else none
 | r :: rs, F, each => if r.count F (l.length - each.length) ≤ l.length - each.length then spreadL l rs (r.binds (l[each.length]?.getD ByteArray.empty) F) (each ++ List.replicate (r.count F (l.length - each.length)) r) else none
def onlyL (F : Bnd) : Rule → ByteArray
 | .fixed t => t | .same v => vS F v | .elem v => elS (vS F v) | .turn v => turnS (vS F v) | .index _ => indexS | _ => ⟨#[]⟩
def Rule.fits (F : Bnd) (t : ByteArray) : Rule → Bool
 | .bind _ c => ofC t c | .anys => true | .nums => ofC t .num | r => t.data.toList == (onlyL F r).data.toList
def fitL : List Rule → List ByteArray → Bnd → Option Bnd
 | [], _, F => some F
 | _ :: _, [], _ => none
 | r :: rs, t :: ts, F => if r.fits F t then fitL rs ts (r.binds t F) else none
def matchL (d : DefD) (ins outs : List ByteArray) : Int := match spreadL ins (d.ins.map ruleOf) noB [], spreadL outs (d.outs.map ruleOf) noB [] with
 | some a, some b => (match fitL a ins noB with
  | none => 62
  | some F => if (fitL b outs F).isSome then 0 else 62)
 | _, _ => 61
def Rule.many : Rule → Bool
 | .anys => true | .nums => true | _ => false
def inferL (d : DefD) (ins : List ByteArray) : List ByteArray × Int := match spreadL ins (d.ins.map ruleOf) noB [] with
 | none => ([], 61)
 | some a => match fitL a ins noB with
  | none => ([], 62)
  | some F => if (d.outs.map ruleOf).any Rule.many then ([], 1) else ((d.outs.map ruleOf).map (onlyL F), 0)
end Go.Proofs.YtgimdkgjfenafaaGreatDoor
namespace Go.Proofs.YtgimdkgjfenafaaGreatDoor
open Go.RowKit
def SMap (w : World) (mb c : Nat) (F : Bnd) : Prop := MapS 21 9 .i32 w mb c F
theorem SMap.get {w : World} {mb c : Nat} {F : Bnd} (h : SMap w mb c F) (v : UInt8) : (Instr.lookup 113 (.map (some mb)) (.int .i32 (v.toNat : Int)) false).run Tryz.prog w = .ok (.string (vS F v)) w :=
 MapS.get h Tryz.underlying113 Tryz.underlying21 Tryz.underlying9 (z_string _) (i32_key v)
set_option maxHeartbeats 4000000 in
set_option maxRecDepth 100000 in
theorem vOnly_any (r : Rule) (mb c : Nat) (F : Bnd) (w : World) (hm : SMap w mb c F) (hE : Env w) :
  Calls Tryz.prog 56 #[.map (some mb), r.pval] w fun e w' => e = .returned (.string (onlyL F r)) ∧ Below w.heap.size w w' := by
 have HM := Lib.hid hm
 have HE := Lib.hid hE
 clear hm hE
 cases r with
 | bad =>
  rw [show (Rule.bad).pval = .agg #[.int .i64 0, .int .i64 0, .int .i32 0, .string ⟨#[]⟩] from rfl]
  have T0 := Lib.hid (heap_alloc_new w (.cells #[.int .i64 0, .int .i64 0, .int .i32 0, .string ⟨#[]⟩] 125))
  have B1 := Lib.hid (new_below w (.cells #[.int .i64 0, .int .i64 0, .int .i32 0, .string ⟨#[]⟩] 125))
  have HX := Lib.hid (show onlyL F (.bad) = ⟨#[]⟩ from rfl)
  generalize onlyL F (.bad) = res at HX ⊢
  go_enter Tryz.func56, Tryz.ntmps56
  go_upto_region 1 with fail
  generalize w.alloc (.cells #[.int .i64 0, .int .i64 0, .int .i32 0, .string ⟨#[]⟩] 125) = W1 at T0 B1 ⊢
  generalize w.heap.size = D at T0 ⊢
  obtain ⟨c0, c1, c2, c3, cf⟩ := dcells4 T0.out
  go_wp2_with fail
  go_ret
  exact ⟨by first | rfl | (rw [HX.out]; first | rfl | done), B1.out⟩
 | fixed t =>
  rw [show (Rule.fixed t).pval = .agg #[.int .i64 1, .int .i64 0, .int .i32 0, .string t] from rfl]
  have T0 := Lib.hid (heap_alloc_new w (.cells #[.int .i64 1, .int .i64 0, .int .i32 0, .string t] 125))
  have B1 := Lib.hid (new_below w (.cells #[.int .i64 1, .int .i64 0, .int .i32 0, .string t] 125))
  have HX := Lib.hid (show onlyL F (.fixed t) = t from rfl)
  generalize onlyL F (.fixed t) = res at HX ⊢
  go_enter Tryz.func56, Tryz.ntmps56
  go_upto_region 1 with fail
  generalize w.alloc (.cells #[.int .i64 1, .int .i64 0, .int .i32 0, .string t] 125) = W1 at T0 B1 ⊢
  generalize w.heap.size = D at T0 ⊢
  obtain ⟨c0, c1, c2, c3, cf⟩ := dcells4 T0.out
  go_wp2_with fail
  go_ret
  exact ⟨by first | rfl | (rw [HX.out]; first | rfl | done), B1.out⟩
 | bind v k =>
  rw [show (Rule.bind v k).pval = .agg #[.int .i64 2, .int .i64 k.num', .int .i32 (v.toNat : Int), .string ⟨#[]⟩] from rfl]
  have T0 := Lib.hid (heap_alloc_new w (.cells #[.int .i64 2, .int .i64 k.num', .int .i32 (v.toNat : Int), .string ⟨#[]⟩] 125))
  have B1 := Lib.hid (new_below w (.cells #[.int .i64 2, .int .i64 k.num', .int .i32 (v.toNat : Int), .string ⟨#[]⟩] 125))
  have HX := Lib.hid (show onlyL F (.bind v k) = ⟨#[]⟩ from rfl)
  generalize onlyL F (.bind v k) = res at HX ⊢
  go_enter Tryz.func56, Tryz.ntmps56
  go_upto_region 1 with fail
  generalize w.alloc (.cells #[.int .i64 2, .int .i64 k.num', .int .i32 (v.toNat : Int), .string ⟨#[]⟩] 125) = W1 at T0 B1 ⊢
  generalize w.heap.size = D at T0 ⊢
  obtain ⟨c0, c1, c2, c3, cf⟩ := dcells4 T0.out
  go_wp2_with fail
  go_ret
  exact ⟨by first | rfl | (rw [HX.out]; first | rfl | done), B1.out⟩
 | same v =>
  rw [show (Rule.same v).pval = .agg #[.int .i64 3, .int .i64 0, .int .i32 (v.toNat : Int), .string ⟨#[]⟩] from rfl]
  have T0 := Lib.hid (heap_alloc_new w (.cells #[.int .i64 3, .int .i64 0, .int .i32 (v.toNat : Int), .string ⟨#[]⟩] 125))
  have B1 := Lib.hid (new_below w (.cells #[.int .i64 3, .int .i64 0, .int .i32 (v.toNat : Int), .string ⟨#[]⟩] 125))
  have hlk := SMap.get (MapS.below HM.out B1.out) v
  have HX := Lib.hid (show onlyL F (.same v) = vS F v from rfl)
  generalize vS F v = x at hlk HX
  generalize onlyL F (.same v) = res at HX ⊢
  go_enter Tryz.func56, Tryz.ntmps56
  go_upto_region 1 with fail
  generalize w.alloc (.cells #[.int .i64 3, .int .i64 0, .int .i32 (v.toNat : Int), .string ⟨#[]⟩] 125) = W1 at T0 B1 hlk ⊢
  generalize w.heap.size = D at T0 ⊢
  obtain ⟨c0, c1, c2, c3, cf⟩ := dcells4 T0.out
  go_wp2_with fail
  go_ret
  exact ⟨by first | rfl | (rw [HX.out]; first | rfl | done), B1.out⟩
 | elem v =>
  rw [show (Rule.elem v).pval = .agg #[.int .i64 4, .int .i64 0, .int .i32 (v.toNat : Int), .string ⟨#[]⟩] from rfl]
  have T0 := Lib.hid (heap_alloc_new w (.cells #[.int .i64 4, .int .i64 0, .int .i32 (v.toNat : Int), .string ⟨#[]⟩] 125))
  have B1 := Lib.hid (new_below w (.cells #[.int .i64 4, .int .i64 0, .int .i32 (v.toNat : Int), .string ⟨#[]⟩] 125))
  have hlk := SMap.get (MapS.below HM.out B1.out) v
  have HC := Lib.hid (Element_is (vS F v) _ (HE.out.below B1.out))
  have HX := Lib.hid (show onlyL F (.elem v) = elS (vS F v) from rfl)
  generalize vS F v = x at hlk HX HC
  generalize onlyL F (.elem v) = res at HX ⊢
  go_enter Tryz.func56, Tryz.ntmps56
  go_upto_region 1 with fail
  generalize w.alloc (.cells #[.int .i64 4, .int .i64 0, .int .i32 (v.toNat : Int), .string ⟨#[]⟩] 125) = W1 at T0 B1 hlk HC ⊢
  generalize w.heap.size = D at T0 ⊢
  obtain ⟨c0, c1, c2, c3, cf⟩ := dcells4 T0.out
  go_wp2_with fail
  clear hlk
  refine HC.out.mono ?_
  rintro e w2 ⟨⟨y, rfl⟩, hb⟩
  have B2 := Lib.hid (B1.out.trans (hb.mono B1.out.size))
  clear hb HC c0 c1 c2 c3 cf
  go_wp2_with fail
  go_ret
  exact ⟨by first | rfl | (rw [HX.out]; first | rfl | done), B2.out⟩
 | turn v =>
  rw [show (Rule.turn v).pval = .agg #[.int .i64 5, .int .i64 0, .int .i32 (v.toNat : Int), .string ⟨#[]⟩] from rfl]
  have T0 := Lib.hid (heap_alloc_new w (.cells #[.int .i64 5, .int .i64 0, .int .i32 (v.toNat : Int), .string ⟨#[]⟩] 125))
  have B1 := Lib.hid (new_below w (.cells #[.int .i64 5, .int .i64 0, .int .i32 (v.toNat : Int), .string ⟨#[]⟩] 125))
  have hlk := SMap.get (MapS.below HM.out B1.out) v
  have HC := Lib.hid (Turned_is (vS F v) _ (HE.out.below B1.out))
  have HX := Lib.hid (show onlyL F (.turn v) = turnS (vS F v) from rfl)
  generalize vS F v = x at hlk HX HC
  generalize onlyL F (.turn v) = res at HX ⊢
  go_enter Tryz.func56, Tryz.ntmps56
  go_upto_region 1 with fail
  generalize w.alloc (.cells #[.int .i64 5, .int .i64 0, .int .i32 (v.toNat : Int), .string ⟨#[]⟩] 125) = W1 at T0 B1 hlk HC ⊢
  generalize w.heap.size = D at T0 ⊢
  obtain ⟨c0, c1, c2, c3, cf⟩ := dcells4 T0.out
  go_wp2_with fail
  clear hlk
  refine HC.out.mono ?_
  rintro e w2 ⟨⟨y, rfl⟩, hb⟩
  have B2 := Lib.hid (B1.out.trans (hb.mono B1.out.size))
  clear hb HC c0 c1 c2 c3 cf
  go_wp2_with fail
  go_ret
  exact ⟨by first | rfl | (rw [HX.out]; first | rfl | done), B2.out⟩
 | index v =>
  rw [show (Rule.index v).pval = .agg #[.int .i64 6, .int .i64 0, .int .i32 (v.toNat : Int), .string ⟨#[]⟩] from rfl]
  have T0 := Lib.hid (heap_alloc_new w (.cells #[.int .i64 6, .int .i64 0, .int .i32 (v.toNat : Int), .string ⟨#[]⟩] 125))
  have B1 := Lib.hid (new_below w (.cells #[.int .i64 6, .int .i64 0, .int .i32 (v.toNat : Int), .string ⟨#[]⟩] 125))
  have HX := Lib.hid (show onlyL F (.index v) = indexS from rfl)
  generalize onlyL F (.index v) = res at HX ⊢
  go_enter Tryz.func56, Tryz.ntmps56
  go_upto_region 1 with fail
  generalize w.alloc (.cells #[.int .i64 6, .int .i64 0, .int .i32 (v.toNat : Int), .string ⟨#[]⟩] 125) = W1 at T0 B1 ⊢
  generalize w.heap.size = D at T0 ⊢
  obtain ⟨c0, c1, c2, c3, cf⟩ := dcells4 T0.out
  go_wp2_with fail
  go_ret
  exact ⟨by first | rfl | (rw [HX.out]; first | rfl | done), B1.out⟩
 | anys =>
  rw [show (Rule.anys).pval = .agg #[.int .i64 7, .int .i64 0, .int .i32 0, .string ⟨#[]⟩] from rfl]
  have T0 := Lib.hid (heap_alloc_new w (.cells #[.int .i64 7, .int .i64 0, .int .i32 0, .string ⟨#[]⟩] 125))
  have B1 := Lib.hid (new_below w (.cells #[.int .i64 7, .int .i64 0, .int .i32 0, .string ⟨#[]⟩] 125))
  have HX := Lib.hid (show onlyL F (.anys) = ⟨#[]⟩ from rfl)
  generalize onlyL F (.anys) = res at HX ⊢
  go_enter Tryz.func56, Tryz.ntmps56
  go_upto_region 1 with fail
  generalize w.alloc (.cells #[.int .i64 7, .int .i64 0, .int .i32 0, .string ⟨#[]⟩] 125) = W1 at T0 B1 ⊢
  generalize w.heap.size = D at T0 ⊢
  obtain ⟨c0, c1, c2, c3, cf⟩ := dcells4 T0.out
  go_wp2_with fail
  go_ret
  exact ⟨by first | rfl | (rw [HX.out]; first | rfl | done), B1.out⟩
 | nums =>
  rw [show (Rule.nums).pval = .agg #[.int .i64 7, .int .i64 1, .int .i32 0, .string ⟨#[]⟩] from rfl]
  have T0 := Lib.hid (heap_alloc_new w (.cells #[.int .i64 7, .int .i64 1, .int .i32 0, .string ⟨#[]⟩] 125))
  have B1 := Lib.hid (new_below w (.cells #[.int .i64 7, .int .i64 1, .int .i32 0, .string ⟨#[]⟩] 125))
  have HX := Lib.hid (show onlyL F (.nums) = ⟨#[]⟩ from rfl)
  generalize onlyL F (.nums) = res at HX ⊢
  go_enter Tryz.func56, Tryz.ntmps56
  go_upto_region 1 with fail
  generalize w.alloc (.cells #[.int .i64 7, .int .i64 1, .int .i32 0, .string ⟨#[]⟩] 125) = W1 at T0 B1 ⊢
  generalize w.heap.size = D at T0 ⊢
  obtain ⟨c0, c1, c2, c3, cf⟩ := dcells4 T0.out
  go_wp2_with fail
  go_ret
  exact ⟨by first | rfl | (rw [HX.out]; first | rfl | done), B1.out⟩
end Go.Proofs.YtgimdkgjfenafaaGreatDoor
namespace Go.Proofs.YtgimdkgjfenafaaGreatDoor
open Go.RowKit
theorem own_grown {w w' : World} {B n sz mb : Nat} {e : TypeId} {v : Value} {xs : List Value} (h : w.ownsRow B e sz v n xs) (hg : w.grownBy w' (some mb)) (hm : mb < B) : w'.ownsRow B e sz v n xs := by
 refine ⟨h.1, ?_⟩
 rcases h.2 with h1 | ⟨g, cap, cur, h1, hB, hh, hx⟩
 ·exact .inl h1
 ·exact .inr ⟨g, cap, cur, h1, hB, (hg.block _ (lt_of_block hh) (fun e => by cases e; omega)).trans hh, hx⟩
theorem MapS.block {K E : TypeId} {q : IntKind} {w w' : World} {b c : Nat} {f : Bnd} (h : MapS K E q w b c f) (hb : w'.heap[b]? = w.heap[b]?) : MapS K E q w' b c f := by
 obtain ⟨n, D, ⟨es, clock, h1, h2⟩, h3⟩ := h
 exact ⟨n, D, ⟨es, clock, hb.trans h1, h2⟩, h3⟩
def SpreadP (rs : List Rule) (l : List ByteArray) (w : World) (e : Ending) (w' : World) : Prop := Below w.heap.size w w' ∧
 ((spreadL l rs noB [] = none ∧ ∃ v, e = .returned (.tuple #[v, .bool false])) ∨
  ∃ (each : List Rule) (ao : Option Addr) (c : Nat), spreadL l rs noB [] = some each ∧ e = .returned (.tuple #[.slice ao each.length c, .bool true]) ∧ RulesAt (above w.heap.size w') ao each)
structure SpS (rs : List Rule) (l : List ByteArray) (w : World) (m : Nat) (F : Bnd) (each : List Rule) (ao : Option Addr) (c : Nat) (wr : World) : Prop where
 below : Below w.heap.size w wr
 size : w.heap.size + 1 ≤ wr.heap.size
 map : SMap wr w.heap.size m F
 own : wr.ownsRow (w.heap.size + 1) 125 4 (.slice ao each.length c) each.length (each.flatMap Rule.cells)
 so : spreadL l rs noB [] = spreadL l (rs.drop m) F each
 len : each.length ≤ l.length
theorem spread_step {l : List ByteArray} {rs : List Rule} {m : Nat} {F : Bnd} {each : List Rule} {r : Rule} (h : rs[m]? = some r) (hc : r.count F (l.length - each.length) ≤ l.length - each.length) :
  spreadL l (rs.drop m) F each = spreadL l (rs.drop (m + 1)) (r.binds (l[each.length]?.getD ByteArray.empty) F) (each ++ List.replicate (r.count F (l.length - each.length)) r) := by
 obtain ⟨hl, hv⟩ := List.getElem?_eq_some_iff.1 h
 rw [List.drop_eq_getElem_cons hl, hv, spreadL, if_pos hc]
theorem spread_stop {l : List ByteArray} {rs : List Rule} {m : Nat} {F : Bnd} {each : List Rule} {r : Rule} (h : rs[m]? = some r) (hc : ¬ r.count F (l.length - each.length) ≤ l.length - each.length) :
  spreadL l (rs.drop m) F each = none := by
 obtain ⟨hl, hv⟩ := List.getElem?_eq_some_iff.1 h
 rw [List.drop_eq_getElem_cons hl, hv, spreadL, if_neg hc]
structure SpI (X : World) (B : Nat) (each : List Rule) (r : Rule) (D : Nat) (k : Nat) (ao : Option Addr) (c : Nat) (wr : World) : Prop where
 below : Below B X wr
 owns : wr.ownsRow B 125 4 (.slice ao (each.length + k) c) (each.length + k) ((each ++ List.replicate k r).flatMap Rule.cells)
 rule : RowIs (off (own ao) wr) (some ⟨D, 0, none⟩) 1 r.cells
theorem many_count {r : Rule} {F : Bnd} {n : Nat} (h : (r.sortP == 7) = true) : r.count F n = n := by
 cases r <;> first | rfl | exact absurd h (by simp [Rule.sortP])
theorem one_count {r : Rule} {F : Bnd} {n : Nat} (h7 : (r.sortP == 7) = false) (h6 : (r.sortP == 6) = false) : r.count F n = 1 := by
 cases r <;> first | rfl | (simp [Rule.sortP] at h7; done) | (simp [Rule.sortP] at h6; done)
theorem none_binds {r : Rule} {F : Bnd} {t : ByteArray} (h2 : (r.sortP == 2) = false) : r.binds t F = F := by
 cases r <;> first | rfl | exact absurd h2 (by simp [Rule.sortP])
theorem row4 {V : World} {D n : Nat} {a b c d : Value} (h : RowIs V (some ⟨D, 0, none⟩) (n + 1) [a, b, c, d]) : V.cell? ⟨D, 0, none⟩ = some a ∧ V.cell? ⟨D, 1, none⟩ = some b ∧ V.cell? ⟨D, 2, none⟩ = some c ∧ V.cell? ⟨D, 3, none⟩ = some d := by
 rcases h with h | ⟨bk, o, e, hc⟩
 ·exact absurd h (Nat.succ_ne_zero n)
 ·cases e
  have h0 := hc 0 a rfl
  have h1 := hc 1 b rfl
  have h2 := hc 2 c rfl
  have h3 := hc 3 d rfl
  rw [Nat.zero_add] at h0 h1 h2 h3
  exact ⟨h0, h1, h2, h3⟩
theorem rule_off {W : World} {D : Nat} {ao : Option Addr} {T : TypeId} {r : Rule} (h : W.heap[D]? = some (.cells r.cells.toArray T (0, 0))) (hn : ∀ k, some k = own ao → k ≠ D) : RowIs (off (own ao) W) (some ⟨D, 0, none⟩) 1 r.cells := by
 refine .inr ⟨D, 0, rfl, fun j v hj => ?_⟩
 rw [Nat.zero_add]
 show (mask _ W).cell? _ = _
 rw [mask_cell, if_pos (by simp only [decide_eq_true_eq]; intro e; exact hn D e rfl), in_row h, ← Array.getElem?_toList]
 exact hj
set_option maxHeartbeats 32000000 in
set_option maxRecDepth 100000 in
theorem spread_any (ra : Option Addr) (rs : List Rule) (rc : Nat) (la : Option Addr) (l : List ByteArray) (lc : Nat) (hr : rs.length ≤ 1000) (hl : l.length ≤ 1048576) (hz : ∀ s ∈ l, s.size ≤ maxLen) (w : World) (hR : RulesAt w ra rs) (hL : StrsAt w la l) (hE : Env w) :
  Calls Tryz.prog 48 #[.slice ra rs.length rc, .slice la l.length lc] w (SpreadP rs l w) := by
 have HR := Lib.hid hR
 have HL := Lib.hid hL
 have HE := Lib.hid hE
 have HZ := Lib.hid hz
 have HRN := Lib.hid hr
 have HLN := Lib.hid hl
 have hri : (rs.length : Int) ≤ 1000 := by omega
 have hli : (l.length : Int) ≤ 1048576 := by omega
 clear hR hL hE hz hr hl
 have hmm := @run_makeMap Tryz.prog
 have HM0 := Lib.hid (MapS.made 21 9 .i32 w)
 have HB0 := Lib.hid (new_below w (.map #[] 0))
 have HS0 := Lib.hid (show w.heap.size + 1 ≤ (w.alloc (.map #[] 0)).heap.size by simp)
 go_enter Tryz.func48, Tryz.ntmps48
 go_wp2_with fail
 generalize w.alloc (.map #[] 0) = W1 at HM0 HB0 HS0 ⊢
 go_loopw [4, 13] (fun ev iv wr => ∃ (m : Nat) (F : Bnd) (each : List Rule) (ao : Option Addr) (c : Nat), m ≤ rs.length ∧ ev = .slice ao each.length c ∧ iv = .int .i64 m ∧ Hid (SpS rs l w m F each ao c wr)) (fun _ iv _ => rs.length - (intOf iv).toNat)
 case atStart => exact ⟨0, noB, [], none, 0, Nat.zero_le _, rfl, rfl, HB0.out, HS0.out, HM0.out, World.ownsRow_nil _ _ _ _, rfl, Nat.zero_le _⟩
 case round =>
  obtain ⟨m, F, each, ao, cp, hmm2, rfl, rfl, HC⟩ := hrel
  have hei : (each.length : Int) ≤ (l.length : Int) := by have := HC.out.len; omega
  by_cases hlt : m < rs.length
  rotate_left
  ·obtain rfl : m = rs.length := by omega
   have HX := Lib.hid (show spreadL l rs noB [] = if each.length = l.length then some each else none by rw [HC.out.so, List.drop_length]; rfl)
   clear hlt hmm2
   by_cases he : each.length = l.length
   ·have hej : ((each.length : Int) == (l.length : Int)) = true := by rw [he]; exact beq_self_eq_true _
    have HY := Lib.hid (show spreadL l rs noB [] = some each by rw [HX.out, if_pos he])
    clear he
    go_wp2_with fail
    go_ret2
    exact ⟨HC.out.below, .inr ⟨each, ao, cp, HY.out, rfl, RowIs.keeps (row_own (own_above HC.out.own)).1 (above_above (Nat.le_succ _))⟩⟩
   ·have hej : ((each.length : Int) == (l.length : Int)) = false := beq_eq_false_iff_ne.2 (by omega)
    have HY := Lib.hid (show spreadL l rs noB [] = none by rw [HX.out, if_neg he])
    clear he
    go_wp2_with fail
    go_ret2
    exact ⟨HC.out.below, .inl ⟨HY.out, _, rfl⟩⟩
  have hz := List.getElem?_eq_getElem hlt
  generalize rs[m]'hlt = r at hz
  obtain ⟨bk, o, rfl, hc⟩ := RowIs.at rule_len (RowIs.below HR.out HC.out.below) hz
  have HG := Lib.hid hz
  have HLT := Lib.hid hlt
  have hlti : (m : Int) < (rs.length : Int) := by omega
  clear hz hlt hmm2
  cases h7 : (r.sortP == 7)
  rotate_left
  ·have HCN := Lib.hid (many_count (F := F) (n := l.length - each.length) h7)
   have HBN := Lib.hid (none_binds (F := F) (t := l[each.length]?.getD ByteArray.empty) (show (r.sortP == 2) = false by rw [beq_iff_eq] at h7; rw [h7]; rfl))
   have HNL := Lib.hid (Nat.le_refl (l.length - each.length))
   obtain ⟨p, hp⟩ : ∃ p, p = r.sortP := ⟨_, rfl⟩
   obtain ⟨q, hq⟩ : ∃ q, q = r.clsP := ⟨_, rfl⟩
   obtain ⟨v, hv⟩ : ∃ v, v = (r.v.toNat : Int) := ⟨_, rfl⟩
   obtain ⟨tx, htx⟩ : ∃ tx, tx = r.textP := ⟨_, rfl⟩
   have HCE := Lib.hid (show r.cells = [.int .i64 p, .int .i64 q, .int .i32 v, .string tx] by rw [hp, hq, hv, htx]; rfl)
   obtain rfl : p = 7 := by rw [hp]; exact beq_iff_eq.1 h7
   clear h7 hp hq hv htx
   have q0 := hc 0 (.int .i64 7) (by first | rfl | (rw [HCE.out]; rfl))
   have q1 := hc 1 (.int .i64 q) (by first | rfl | (rw [HCE.out]; rfl))
   have q2 := hc 2 (.int .i32 v) (by first | rfl | (rw [HCE.out]; rfl))
   have q3 := hc 3 (.string tx) (by first | rfl | (rw [HCE.out]; rfl))
   rw [Nat.add_zero] at q0
   clear hc
   have HT := Lib.hid (heap_alloc_new wr (.cells #[.int .i64 7, .int .i64 q, .int .i32 v, .string tx] 125))
   have HNB := Lib.hid (new_below wr (.cells #[.int .i64 7, .int .i64 q, .int .i32 v, .string tx] 125))
   have HOD := Lib.hid (fun k (e : some k = own ao) => (show k ≠ wr.heap.size from Nat.ne_of_lt (own_lt' HC.out.own k e).2))
   go_upto_region 5 with fail
   generalize wr.alloc (.cells #[.int .i64 7, .int .i64 q, .int .i32 v, .string tx] 125) = W3 at HT HNB ⊢
   generalize wr.heap.size = D at HT HOD ⊢
   clear q0 q1 q2 q3
   have HB3 := Lib.hid (HC.out.below.trans (HNB.out.mono HC.out.below.size))
   have HS3 := Lib.hid (Nat.le_trans HC.out.size HNB.out.size)
   have HM3 := Lib.hid (MapS.below HC.out.map HNB.out)
   have HO3 := Lib.hid (ownsRow_below HC.out.own HNB.out)
   have HSO := Lib.hid HC.out.so
   have HLE := Lib.hid HC.out.len
   clear HC HNB
   obtain ⟨c0, c1, c2, c3, cf⟩ := dcells4 HT.out
   have HRO := Lib.hid (rule_off (W := W3) (D := D) (r := r) (T := 125) (by first | exact HT.out | (rw [HCE.out]; exact HT.out)) HOD.out)
   obtain ⟨n, hn⟩ : ∃ n, n = l.length - each.length := ⟨_, rfl⟩
   have hni : (l.length : Int) - (each.length : Int) = (n : Int) := by omega
   have hnb : (n : Int) ≤ 1048576 := by omega
   replace HCN := Lib.hid (HCN.out.trans hn.symm)
   replace HNL := Lib.hid (show n ≤ l.length - each.length by omega)
   have HN := Lib.hid hn
   clear hn
   go_wp2_with fail
   clear c0 c1 c2 c3 cf
   go_loopw [4, 55] (fun ev iv wx => ∃ (k : Nat) (ax : Option Addr) (cx : Nat), k ≤ n ∧ ev = .slice ax (each.length + k) cx ∧ iv = .int .i64 k ∧ Hid (SpI W3 (w.heap.size + 1) each r D k ax cx wx)) (fun _ iv _ => n - (intOf iv).toNat)
   case atStart => exact ⟨0, ao, cp, Nat.zero_le _, rfl, rfl, Below.refl _ _, by rw [List.replicate_zero, List.append_nil]; exact HO3.out, HRO.out⟩
   case round =>
    obtain ⟨k, ax, cx, hk, rfl, rfl, HI⟩ := hrel
    by_cases hlk : k < n
    rotate_left
    ·obtain rfl : k = n := by omega
     clear hlk hk
     have HNX := Lib.hid (HSO.out.trans (spread_step HG.out (by rw [HCN.out]; exact HNL.out)))
     have HEL := Lib.hid (show each.length + k = (each ++ List.replicate (k) r).length by rw [List.length_append, List.length_replicate])
     go_wp2_with fail
     go_roundw
     case rel => exact ⟨m + 1, F, each ++ List.replicate (k) r, ax, cx, HLT.out, by rw [← HEL.out], by go_num, HB3.out.trans (HI.out.below.mono (Nat.le_succ _)), Nat.le_trans HS3.out HI.out.below.size, MapS.block (MapS.mono HM3.out (by omega)) (HI.out.below.block _ (Nat.lt_succ_self _)), by have := HI.out.owns; rw [HEL.out] at this; exact this, by have := HNX.out; rw [HCN.out, HBN.out] at this; exact this, by rw [← HEL.out]; have := HNL.out; have := HLE.out; omega⟩
     case measure => have := HLT.out; simp only [intOf]; omega
    have hlki : (k : Int) < (n : Int) := by omega
    obtain ⟨d0, d1, d2, d3⟩ := row4 (a := .int .i64 7) (b := .int .i64 q) (c := .int .i32 v) (d := .string tx) (n := 0) (by have := RowIs.keeps HI.out.rule off_to; first | exact this | (rw [HCE.out] at this; exact this))
    have HLK := Lib.hid hlk
    have HOW := Lib.hid HI.out.owns
    have HBZ := Lib.hid (Nat.le_trans HS3.out HI.out.below.size)
    have HNN := Lib.hid (show each.length + k ≤ 2000000 by have := HLE.out; have := HLN.out; have := HNL.out; omega)
    clear hlk hk
    go_wp2_with (at_builtin; refine wp_append_own rfl 105 125 4 Tryz.underlying105 info_rule (by decide) _ _ rfl HOW.out HBZ.out HNN.out rfl rfl rfl rfl ?_; intro ao5 c5 w5 hown hbel hkp; have HO5 := Lib.hid hown; have HB5 := Lib.hid hbel; have HK5 := Lib.hid hkp; clear hown hbel hkp)
    go_roundw
    case rel => exact ⟨k + 1, ao5, c5, HLK.out, rfl, by go_num, HI.out.below.trans HB5.out, by
      have e : (each ++ List.replicate (k + 1) r).flatMap Rule.cells = (each ++ List.replicate k r).flatMap Rule.cells ++ r.cells := by rw [List.replicate_succ', ← List.append_assoc, List.flatMap_append]; simp
      rw [e]
      first | exact HO5.out | (rw [HCE.out]; exact HO5.out), RowIs.keeps HI.out.rule HK5.out⟩
    case measure => have := HLK.out; simp only [intOf]; omega
  cases h6 : (r.sortP == 6)
  rotate_left
  ·obtain ⟨v, rfl⟩ : ∃ v, r = .index v := by
     cases r <;> first | exact ⟨_, rfl⟩ | exact absurd h6 (by simp [Rule.sortP])
   clear h6 h7
   have HCN := Lib.hid (show (Rule.index v).count F (l.length - each.length) = rankS (vS F v) from rfl)
   have HBN := Lib.hid (show (Rule.index v).binds (l[each.length]?.getD ByteArray.empty) F = F from rfl)
   have q0 := hc 0 (.int .i64 6) (by first | rfl | (rw [HCE.out]; rfl))
   have q1 := hc 1 (.int .i64 0) (by first | rfl | (rw [HCE.out]; rfl))
   have q2 := hc 2 (.int .i32 (v.toNat : Int)) (by first | rfl | (rw [HCE.out]; rfl))
   have q3 := hc 3 (.string ⟨#[]⟩) (by first | rfl | (rw [HCE.out]; rfl))
   rw [Nat.add_zero] at q0
   clear hc
   have HT := Lib.hid (heap_alloc_new wr (.cells #[.int .i64 6, .int .i64 0, .int .i32 (v.toNat : Int), .string ⟨#[]⟩] 125))
   have HNB := Lib.hid (new_below wr (.cells #[.int .i64 6, .int .i64 0, .int .i32 (v.toNat : Int), .string ⟨#[]⟩] 125))
   have HOD := Lib.hid (fun k (e : some k = own ao) => (show k ≠ wr.heap.size from Nat.ne_of_lt (own_lt' HC.out.own k e).2))
   go_upto_region 5 with fail
   generalize wr.alloc (.cells #[.int .i64 6, .int .i64 0, .int .i32 (v.toNat : Int), .string ⟨#[]⟩] 125) = W3 at HT HNB ⊢
   generalize wr.heap.size = D at HT HOD ⊢
   clear q0 q1 q2 q3
   have HB3 := Lib.hid (HC.out.below.trans (HNB.out.mono HC.out.below.size))
   have HS3 := Lib.hid (Nat.le_trans HC.out.size HNB.out.size)
   have HM3 := Lib.hid (MapS.below HC.out.map HNB.out)
   have HO3 := Lib.hid (ownsRow_below HC.out.own HNB.out)
   have HSO := Lib.hid HC.out.so
   have HLE := Lib.hid HC.out.len
   clear HC HNB
   obtain ⟨c0, c1, c2, c3, cf⟩ := dcells4 HT.out
   have hlk := SMap.get HM3.out v
   have HRK := Lib.hid (rank_le (vS F v))
   have HC4 := Lib.hid (Rank_is (vS F v) W3 (HE.out.below HB3.out))
   generalize hvs : vS F v = x at hlk HCN HRK HC4
   have HVS := Lib.hid hvs
   clear hvs
   go_wp2_with fail
   refine HC4.out.mono ?_
   rintro e w4 ⟨⟨y, rfl⟩, hb⟩
   replace HB3 := Lib.hid (HB3.out.trans (hb.mono HB3.out.size))
   replace HS3 := Lib.hid (Nat.le_trans HS3.out hb.size)
   replace HM3 := Lib.hid (MapS.below HM3.out hb)
   replace HO3 := Lib.hid (ownsRow_below HO3.out hb)
   replace HT := Lib.hid ((hb.block _ (lt_of_block HT.out)).trans HT.out)
   clear hb c0 c1 c2 c3 cf hlk HC4
   obtain ⟨c0, c1, c2, c3, cf⟩ := dcells4 HT.out
   obtain ⟨n, hn⟩ : ∃ n, n = rankS x := ⟨_, rfl⟩
   rw [← hn] at HCN HRK ⊢
   clear hn
   have hn3 : (n : Int) ≤ 3 := by have := HRK.out; omega
   by_cases hfit : n ≤ l.length - each.length
   rotate_left
   ·have hdi : decide ((n : Int) > (l.length : Int) - (each.length : Int)) = true := decide_eq_true (by omega)
    have HNL := Lib.hid hfit
    clear hfit
    have HNX := Lib.hid (HSO.out.trans (spread_stop HG.out (by rw [HCN.out]; exact HNL.out)))
    go_wp2_with fail
    go_ret2
    exact ⟨HB3.out, .inl ⟨HNX.out, _, rfl⟩⟩
   have hdi : decide ((n : Int) > (l.length : Int) - (each.length : Int)) = false := decide_eq_false (by omega)
   have HNL := Lib.hid hfit
   clear hfit
   have HRO := Lib.hid (rule_off (W := w4) (D := D) (r := .index v) (T := 125) HT.out HOD.out)
   obtain ⟨r, hr⟩ : ∃ r, r = Rule.index v := ⟨_, rfl⟩
   have HCE := Lib.hid (show r.cells = [.int .i64 6, .int .i64 0, .int .i32 (v.toNat : Int), .string ⟨#[]⟩] by rw [hr]; rfl)
   rw [← hr] at HRO HCN HBN HG
   clear hr
   go_wp2_with fail
   clear c0 c1 c2 c3 cf hdi
   go_loopw [4, 55] (fun ev iv wx => ∃ (k : Nat) (ax : Option Addr) (cx : Nat), k ≤ n ∧ ev = .slice ax (each.length + k) cx ∧ iv = .int .i64 k ∧ Hid (SpI w4 (w.heap.size + 1) each r D k ax cx wx)) (fun _ iv _ => n - (intOf iv).toNat)
   case atStart => exact ⟨0, ao, cp, Nat.zero_le _, rfl, rfl, Below.refl _ _, by rw [List.replicate_zero, List.append_nil]; exact HO3.out, HRO.out⟩
   case round =>
    obtain ⟨k, ax, cx, hk, rfl, rfl, HI⟩ := hrel
    by_cases hlk : k < n
    rotate_left
    ·obtain rfl : k = n := by omega
     clear hlk hk
     have HNX := Lib.hid (HSO.out.trans (spread_step HG.out (by rw [HCN.out]; exact HNL.out)))
     have HEL := Lib.hid (show each.length + k = (each ++ List.replicate (k) r).length by rw [List.length_append, List.length_replicate])
     go_wp2_with fail
     go_roundw
     case rel => exact ⟨m + 1, F, each ++ List.replicate (k) r, ax, cx, HLT.out, by rw [← HEL.out], by go_num, HB3.out.trans (HI.out.below.mono (Nat.le_succ _)), Nat.le_trans HS3.out HI.out.below.size, MapS.block (MapS.mono HM3.out (by omega)) (HI.out.below.block _ (Nat.lt_succ_self _)), by have := HI.out.owns; rw [HEL.out] at this; exact this, by have := HNX.out; rw [HCN.out, HBN.out] at this; exact this, by rw [← HEL.out]; have := HNL.out; have := HLE.out; omega⟩
     case measure => have := HLT.out; simp only [intOf]; omega
    have hlki : (k : Int) < (n : Int) := by omega
    obtain ⟨d0, d1, d2, d3⟩ := row4 (a := .int .i64 6) (b := .int .i64 0) (c := .int .i32 (v.toNat : Int)) (d := .string ⟨#[]⟩) (n := 0) (by have := RowIs.keeps HI.out.rule off_to; first | exact this | (rw [HCE.out] at this; exact this))
    have HLK := Lib.hid hlk
    have HOW := Lib.hid HI.out.owns
    have HBZ := Lib.hid (Nat.le_trans HS3.out HI.out.below.size)
    have HNN := Lib.hid (show each.length + k ≤ 2000000 by have := HLE.out; have := HLN.out; have := HNL.out; omega)
    clear hlk hk
    go_wp2_with (at_builtin; refine wp_append_own rfl 105 125 4 Tryz.underlying105 info_rule (by decide) _ _ rfl HOW.out HBZ.out HNN.out rfl rfl rfl rfl ?_; intro ao5 c5 w5 hown hbel hkp; have HO5 := Lib.hid hown; have HB5 := Lib.hid hbel; have HK5 := Lib.hid hkp; clear hown hbel hkp)
    go_roundw
    case rel => exact ⟨k + 1, ao5, c5, HLK.out, rfl, by go_num, HI.out.below.trans HB5.out, by
      have e : (each ++ List.replicate (k + 1) r).flatMap Rule.cells = (each ++ List.replicate k r).flatMap Rule.cells ++ r.cells := by rw [List.replicate_succ', ← List.append_assoc, List.flatMap_append]; simp
      rw [e]
      first | exact HO5.out | (rw [HCE.out]; exact HO5.out), RowIs.keeps HI.out.rule HK5.out⟩
    case measure => have := HLK.out; simp only [intOf]; omega
  cases h2 : (r.sortP == 2)
  rotate_left
  ·obtain ⟨v, cl, rfl⟩ : ∃ v cl, r = .bind v cl := by
     cases r <;> first | exact ⟨_, _, rfl⟩ | exact absurd h2 (by simp [Rule.sortP])
   clear h2 h6 h7
   have HCN := Lib.hid (show (Rule.bind v cl).count F (l.length - each.length) = 1 from rfl)
   have HBN := Lib.hid (show (Rule.bind v cl).binds (l[each.length]?.getD ByteArray.empty) F = setAt F (v.toNat : Int) (l[each.length]?.getD ByteArray.empty) from rfl)
   have HDM := Lib.hid (show wr.heap.size ≠ w.heap.size by have := HC.out.size; omega)
   have q0 := hc 0 (.int .i64 2) (by first | rfl | (rw [HCE.out]; rfl))
   have q1 := hc 1 (.int .i64 cl.num') (by first | rfl | (rw [HCE.out]; rfl))
   have q2 := hc 2 (.int .i32 (v.toNat : Int)) (by first | rfl | (rw [HCE.out]; rfl))
   have q3 := hc 3 (.string ⟨#[]⟩) (by first | rfl | (rw [HCE.out]; rfl))
   rw [Nat.add_zero] at q0
   clear hc
   have HT := Lib.hid (heap_alloc_new wr (.cells #[.int .i64 2, .int .i64 cl.num', .int .i32 (v.toNat : Int), .string ⟨#[]⟩] 125))
   have HNB := Lib.hid (new_below wr (.cells #[.int .i64 2, .int .i64 cl.num', .int .i32 (v.toNat : Int), .string ⟨#[]⟩] 125))
   have HOD := Lib.hid (fun k (e : some k = own ao) => (show k ≠ wr.heap.size from Nat.ne_of_lt (own_lt' HC.out.own k e).2))
   go_upto_region 5 with fail
   generalize wr.alloc (.cells #[.int .i64 2, .int .i64 cl.num', .int .i32 (v.toNat : Int), .string ⟨#[]⟩] 125) = W3 at HT HNB ⊢
   generalize wr.heap.size = D at HT HOD HDM ⊢
   clear q0 q1 q2 q3
   have HB3 := Lib.hid (HC.out.below.trans (HNB.out.mono HC.out.below.size))
   have HS3 := Lib.hid (Nat.le_trans HC.out.size HNB.out.size)
   have HM3 := Lib.hid (MapS.below HC.out.map HNB.out)
   have HO3 := Lib.hid (ownsRow_below HC.out.own HNB.out)
   have HSO := Lib.hid HC.out.so
   have HLE := Lib.hid HC.out.len
   clear HC HNB
   obtain ⟨c0, c1, c2, c3, cf⟩ := dcells4 HT.out
   by_cases hfit : 1 ≤ l.length - each.length
   rotate_left
   ·have hdi : decide ((1 : Int) > (l.length : Int) - (each.length : Int)) = true := decide_eq_true (by omega)
    have HNL := Lib.hid hfit
    clear hfit
    have HNX := Lib.hid (HSO.out.trans (spread_stop HG.out (by rw [HCN.out]; exact HNL.out)))
    go_wp2_with fail
    go_ret2
    exact ⟨HB3.out, .inl ⟨HNX.out, _, rfl⟩⟩
   have hdi : decide ((1 : Int) > (l.length : Int) - (each.length : Int)) = false := decide_eq_false (by omega)
   have HNL := Lib.hid hfit
   have hlt2 : (each.length : Int) < (l.length : Int) := by omega
   have hjs : l[each.length]? = some (l[each.length]?.getD ByteArray.empty) := by rw [List.getElem?_eq_getElem (show each.length < l.length by omega)]; rfl
   rcases HL.out.below HB3.out with h0 | ⟨a, rfl, hcl⟩
   ·rw [h0] at hfit; simp at hfit
   have hcm := hcl each.length (by omega)
   clear hcl
   generalize l[each.length]?.getD ByteArray.empty = t at hcm hjs HBN
   have HTS := Lib.hid (HZ.out t (List.mem_of_getElem? hjs))
   have HJS := Lib.hid hjs
   have HCM := Lib.hid hcm
   have HMI := Lib.hid (show m < 4611686018427387904 by have := HLT.out; have := HRN.out; omega)
   clear hfit hjs
   go_upto_region 14 with fail
   clear c0 c1 c2 c3 cf hcm hdi
   refine wp_region_held_drew (S := fun w' => Hid (Keeps W3 w')) (by kernel_rfl) (fun _ _ h => h) (fun hHeld => ?_)
   have HMV := Lib.hid (MapS.below HM3.out (Below.refl W3.heap.size W3).drew)
   have HBV := Lib.hid (HB3.out.drew)
   have HOV := Lib.hid (ownsRow_below HO3.out (Below.refl W3.heap.size W3).drew)
   have HTV := Lib.hid (show W3.drew.heap[D]? = _ from HT.out)
   have HSV := Lib.hid (show w.heap.size + 1 ≤ W3.drew.heap.size from HS3.out)
   have HC2 := Lib.hid (fun (X : World) (h : Hid (Keeps W3 X)) => (show X.cell? ⟨D, 2, none⟩ = some (.int .i32 (v.toNat : Int)) from h.out _ _ (dcells4 HT.out).2.2.1))
   have HC3 := Lib.hid (fun (X : World) (h : Hid (Keeps W3 X)) => (show X.cell? (a.add each.length) = some (.string t) from h.out _ _ HCM.out))
   generalize W3.drew = V0 at hHeld HMV HBV HOV HTV HSV ⊢
   obtain ⟨w5, hru, hmp, hgr⟩ := MapS.put (T := 113) HMV.out Tryz.underlying113 Tryz.underlying21 Tryz.underlying9 HMI.out (i32_key v) HTS.out
   obtain ⟨ob, ho1, ho2⟩ := MapS.obj HMV.out
   have HK5 := Lib.hid (grown_keeps hgr ho1 ho2)
   have HM5 := Lib.hid hmp
   have HG5 := Lib.hid hgr
   have HRU := Lib.hid hru
   clear hmp hgr ho1 ho2 hru
   refine wpAnyH_take (i := 0) (v := .map (some w.heap.size)) rfl (by kernel_rfl) (by kernel_rfl) (by kernel_rfl) (fun _ _ _ h => h) (Or.inl ⟨by rfl, ?_⟩) hHeld ?_
   ·intro w0 hSw
    go_simp
   simp only [Act.put, sA, sC, sD, sE, sF]
   refine wpAnyH_take (i := 1) (v := .pointer (some ⟨D, 2, none⟩)) rfl (by kernel_rfl) (by kernel_rfl) (by kernel_rfl) (fun _ _ _ h => h) (Or.inl ⟨by rfl, ?_⟩) hHeld ?_
   ·intro w0 hSw
    go_simp
   simp only [Act.put, sA, sB, sC, sD, sE, sF]
   refine wpAnyH_take (i := 2) (v := .int .i32 (v.toNat : Int)) rfl (by kernel_rfl) (by kernel_rfl) (by kernel_rfl) (fun _ _ _ h => h) (Or.inl ⟨by rfl, ?_⟩) hHeld ?_
   ·intro w0 hSw
    have hcc := HC2.out w0 hSw
    go_simp
   simp only [Act.put, sA, sB, sC, sD, sE, sF]
   refine wpAnyH_take (i := 3) (v := .slice (some a) l.length lc) rfl (by kernel_rfl) (by kernel_rfl) (by kernel_rfl) (fun _ _ _ h => h) (Or.inl ⟨by rfl, ?_⟩) hHeld ?_
   ·intro w0 hSw
    go_simp
   simp only [Act.put, sA, sB, sC, sD, sE, sF]
   refine wpAnyH_take (i := 4) (v := .slice ao each.length cp) rfl (by kernel_rfl) (by kernel_rfl) (by kernel_rfl) (fun _ _ _ h => h) (Or.inl ⟨by rfl, ?_⟩) hHeld ?_
   ·intro w0 hSw
    go_simp
   simp only [Act.put, sA, sB, sC, sD, sE, sF]
   refine wpAnyH_take (i := 5) (v := .int .i64 (each.length : Int)) rfl (by kernel_rfl) (by kernel_rfl) (by kernel_rfl) (fun _ _ _ h => h) (Or.inl ⟨by rfl, ?_⟩) hHeld ?_
   ·intro w0 hSw
    go_simp
   simp only [Act.put, sA, sB, sC, sD, sE, sF]
   refine wpAnyH_take (i := 6) (v := .pointer (some (a.add each.length))) rfl (by kernel_rfl) (by kernel_rfl) (by kernel_rfl) (fun _ _ _ h => h) (Or.inl ⟨by rfl, ?_⟩) hHeld ?_
   ·intro w0 hSw
    go_simp
   simp only [Act.put, sA, sB, sC, sD, sE, sF]
   refine wpAnyH_take (i := 7) (v := .string t) rfl (by kernel_rfl) (by kernel_rfl) (by kernel_rfl) (fun _ _ _ h => h) (Or.inl ⟨by rfl, ?_⟩) hHeld ?_
   ·intro w0 hSw
    have hcc := HC3.out w0 hSw
    go_simp
   simp only [Act.put, sA, sB, sC, sD, sE, sF]
   refine wpAnyH_ready (rs := [8]) (by kernel_rfl) (by simp) ?_
   refine AllReadyH.cons rfl (fun K hK => ?_) AllReadyH.nil
   have hru := HRU.out
   go_simp
   refine hK.out _ _ (show Hid (Keeps W3 w5) from hHeld.out.trans HK5.out) (fun hEnd => ?_)
   clear hK K hru
   try simp only [Act.put, sA, sB, sC, sD, sE, sF]
   refine wpAnyH_done (by kernel_rfl) ?_ _
   replace HB3 := Lib.hid (HBV.out.grown HG5.out (by have := HSV.out; omega) (fun k e => by cases e; exact Nat.le_refl _))
   replace HS3 := Lib.hid (Nat.le_trans HSV.out HG5.out.size)
   replace HM3 := HM5
   replace HO3 := Lib.hid (own_grown HOV.out HG5.out (Nat.lt_succ_self _))
   replace HT := Lib.hid ((HG5.out.block D (lt_of_block HTV.out) (fun e => HDM.out (Option.some.inj e))).trans HTV.out)
   clear HM5 HBV HOV HTV HSV HMV HG5 hHeld hEnd HC2 HC3 HRU HK5 HCM
   obtain ⟨c0, c1, c2, c3, cf⟩ := dcells4 HT.out
   have HRO := Lib.hid (rule_off (W := w5) (D := D) (r := .bind v cl) (T := 125) HT.out HOD.out)
   obtain ⟨r, hr⟩ : ∃ r, r = Rule.bind v cl := ⟨_, rfl⟩
   have HCE := Lib.hid (show r.cells = [.int .i64 2, .int .i64 cl.num', .int .i32 (v.toNat : Int), .string ⟨#[]⟩] by rw [hr]; rfl)
   rw [← hr] at HRO HCN HBN HG
   replace HBN := Lib.hid (show r.binds (l[each.length]?.getD ByteArray.empty) F = setAt F (v.toNat : Int) t by rw [HJS.out]; exact HBN.out)
   clear hr
   go_wp2_with fail
   clear c0 c1 c2 c3 cf
   go_loopw [4, 55] (fun ev iv wx => ∃ (k : Nat) (ax : Option Addr) (cx : Nat), k ≤ 1 ∧ ev = .slice ax (each.length + k) cx ∧ iv = .int .i64 k ∧ Hid (SpI w5 (w.heap.size + 1) each r D k ax cx wx)) (fun _ iv _ => 1 - (intOf iv).toNat)
   case atStart => exact ⟨0, ao, cp, Nat.zero_le _, rfl, rfl, Below.refl _ _, by rw [List.replicate_zero, List.append_nil]; exact HO3.out, HRO.out⟩
   case round =>
    obtain ⟨k, ax, cx, hk, rfl, rfl, HI⟩ := hrel
    by_cases hlk : k < 1
    rotate_left
    ·obtain rfl : k = 1 := by omega
     clear hlk hk
     have HNX := Lib.hid (HSO.out.trans (spread_step HG.out (by rw [HCN.out]; exact HNL.out)))
     have HEL := Lib.hid (show each.length + 1 = (each ++ List.replicate (1) r).length by rw [List.length_append, List.length_replicate])
     go_wp2_with fail
     go_roundw
     case rel => exact ⟨m + 1, setAt F (v.toNat : Int) t, each ++ List.replicate (1) r, ax, cx, HLT.out, by rw [← HEL.out], by go_num, HB3.out.trans (HI.out.below.mono (Nat.le_succ _)), Nat.le_trans HS3.out HI.out.below.size, MapS.block (MapS.mono HM3.out (Nat.le_refl _)) (HI.out.below.block _ (Nat.lt_succ_self _)), by have := HI.out.owns; rw [HEL.out] at this; exact this, by have := HNX.out; rw [HCN.out, HBN.out] at this; exact this, by rw [← HEL.out]; have := HNL.out; have := HLE.out; omega⟩
     case measure => have := HLT.out; simp only [intOf]; omega
    have hlki : (k : Int) < 1 := by omega
    obtain ⟨d0, d1, d2, d3⟩ := row4 (a := .int .i64 2) (b := .int .i64 cl.num') (c := .int .i32 (v.toNat : Int)) (d := .string ⟨#[]⟩) (n := 0) (by have := RowIs.keeps HI.out.rule off_to; first | exact this | (rw [HCE.out] at this; exact this))
    have HLK := Lib.hid hlk
    have HOW := Lib.hid HI.out.owns
    have HBZ := Lib.hid (Nat.le_trans HS3.out HI.out.below.size)
    have HNN := Lib.hid (show each.length + k ≤ 2000000 by have := HLE.out; have := HLN.out; have := HNL.out; omega)
    clear hlk hk
    go_wp2_with (at_builtin; refine wp_append_own rfl 105 125 4 Tryz.underlying105 info_rule (by decide) _ _ rfl HOW.out HBZ.out HNN.out rfl rfl rfl rfl ?_; intro ao5 c5 w5 hown hbel hkp; have HO5 := Lib.hid hown; have HB5 := Lib.hid hbel; have HK5 := Lib.hid hkp; clear hown hbel hkp)
    go_roundw
    case rel => exact ⟨k + 1, ao5, c5, HLK.out, rfl, by go_num, HI.out.below.trans HB5.out, by
      have e : (each ++ List.replicate (k + 1) r).flatMap Rule.cells = (each ++ List.replicate k r).flatMap Rule.cells ++ r.cells := by rw [List.replicate_succ', ← List.append_assoc, List.flatMap_append]; simp
      rw [e]
      first | exact HO5.out | (rw [HCE.out]; exact HO5.out), RowIs.keeps HI.out.rule HK5.out⟩
    case measure => have := HLK.out; simp only [intOf]; omega
  have HCN := Lib.hid (one_count (F := F) (n := l.length - each.length) h7 h6)
  have HBN := Lib.hid (none_binds (F := F) (t := l[each.length]?.getD ByteArray.empty) h2)
  obtain ⟨p, hp⟩ : ∃ p, p = r.sortP := ⟨_, rfl⟩
  obtain ⟨q, hq⟩ : ∃ q, q = r.clsP := ⟨_, rfl⟩
  obtain ⟨v, hv⟩ : ∃ v, v = (r.v.toNat : Int) := ⟨_, rfl⟩
  obtain ⟨tx, htx⟩ : ∃ tx, tx = r.textP := ⟨_, rfl⟩
  have HCE := Lib.hid (show r.cells = [.int .i64 p, .int .i64 q, .int .i32 v, .string tx] by rw [hp, hq, hv, htx]; rfl)
  rw [← hp] at h7 h6 h2
  clear hp hq hv htx
  have q0 := hc 0 (.int .i64 p) (by first | rfl | (rw [HCE.out]; rfl))
  have q1 := hc 1 (.int .i64 q) (by first | rfl | (rw [HCE.out]; rfl))
  have q2 := hc 2 (.int .i32 v) (by first | rfl | (rw [HCE.out]; rfl))
  have q3 := hc 3 (.string tx) (by first | rfl | (rw [HCE.out]; rfl))
  rw [Nat.add_zero] at q0
  clear hc
  have HT := Lib.hid (heap_alloc_new wr (.cells #[.int .i64 p, .int .i64 q, .int .i32 v, .string tx] 125))
  have HNB := Lib.hid (new_below wr (.cells #[.int .i64 p, .int .i64 q, .int .i32 v, .string tx] 125))
  have HOD := Lib.hid (fun k (e : some k = own ao) => (show k ≠ wr.heap.size from Nat.ne_of_lt (own_lt' HC.out.own k e).2))
  go_upto_region 5 with fail
  generalize wr.alloc (.cells #[.int .i64 p, .int .i64 q, .int .i32 v, .string tx] 125) = W3 at HT HNB ⊢
  generalize wr.heap.size = D at HT HOD ⊢
  clear q0 q1 q2 q3
  have HB3 := Lib.hid (HC.out.below.trans (HNB.out.mono HC.out.below.size))
  have HS3 := Lib.hid (Nat.le_trans HC.out.size HNB.out.size)
  have HM3 := Lib.hid (MapS.below HC.out.map HNB.out)
  have HO3 := Lib.hid (ownsRow_below HC.out.own HNB.out)
  have HSO := Lib.hid HC.out.so
  have HLE := Lib.hid HC.out.len
  clear HC HNB
  obtain ⟨c0, c1, c2, c3, cf⟩ := dcells4 HT.out
  by_cases hfit : 1 ≤ l.length - each.length
  rotate_left
  ·have hdi : decide ((1 : Int) > (l.length : Int) - (each.length : Int)) = true := decide_eq_true (by omega)
   have HNL := Lib.hid hfit
   clear hfit
   have HNX := Lib.hid (HSO.out.trans (spread_stop HG.out (by rw [HCN.out]; exact HNL.out)))
   go_wp2_with fail
   go_ret2
   exact ⟨HB3.out, .inl ⟨HNX.out, _, rfl⟩⟩
  have hdi : decide ((1 : Int) > (l.length : Int) - (each.length : Int)) = false := decide_eq_false (by omega)
  have HNL := Lib.hid hfit
  clear hfit
  have HRO := Lib.hid (rule_off (W := W3) (D := D) (r := r) (T := 125) (by first | exact HT.out | (rw [HCE.out]; exact HT.out)) HOD.out)
  go_wp2_with fail
  clear c0 c1 c2 c3 cf hdi
  go_loopw [4, 55] (fun ev iv wx => ∃ (k : Nat) (ax : Option Addr) (cx : Nat), k ≤ 1 ∧ ev = .slice ax (each.length + k) cx ∧ iv = .int .i64 k ∧ Hid (SpI W3 (w.heap.size + 1) each r D k ax cx wx)) (fun _ iv _ => 1 - (intOf iv).toNat)
  case atStart => exact ⟨0, ao, cp, Nat.zero_le _, rfl, rfl, Below.refl _ _, by rw [List.replicate_zero, List.append_nil]; exact HO3.out, HRO.out⟩
  case round =>
   obtain ⟨k, ax, cx, hk, rfl, rfl, HI⟩ := hrel
   by_cases hlk : k < 1
   rotate_left
   ·obtain rfl : k = 1 := by omega
    clear hlk hk
    have HNX := Lib.hid (HSO.out.trans (spread_step HG.out (by rw [HCN.out]; exact HNL.out)))
    have HEL := Lib.hid (show each.length + 1 = (each ++ List.replicate (1) r).length by rw [List.length_append, List.length_replicate])
    go_wp2_with fail
    go_roundw
    case rel => exact ⟨m + 1, F, each ++ List.replicate (1) r, ax, cx, HLT.out, by rw [← HEL.out], by go_num, HB3.out.trans (HI.out.below.mono (Nat.le_succ _)), Nat.le_trans HS3.out HI.out.below.size, MapS.block (MapS.mono HM3.out (by omega)) (HI.out.below.block _ (Nat.lt_succ_self _)), by have := HI.out.owns; rw [HEL.out] at this; exact this, by have := HNX.out; rw [HCN.out, HBN.out] at this; exact this, by rw [← HEL.out]; have := HNL.out; have := HLE.out; omega⟩
    case measure => have := HLT.out; simp only [intOf]; omega
   have hlki : (k : Int) < 1 := by omega
   obtain ⟨d0, d1, d2, d3⟩ := row4 (a := .int .i64 p) (b := .int .i64 q) (c := .int .i32 v) (d := .string tx) (n := 0) (by have := RowIs.keeps HI.out.rule off_to; first | exact this | (rw [HCE.out] at this; exact this))
   have HLK := Lib.hid hlk
   have HOW := Lib.hid HI.out.owns
   have HBZ := Lib.hid (Nat.le_trans HS3.out HI.out.below.size)
   have HNN := Lib.hid (show each.length + k ≤ 2000000 by have := HLE.out; have := HLN.out; have := HNL.out; omega)
   clear hlk hk
   go_wp2_with (at_builtin; refine wp_append_own rfl 105 125 4 Tryz.underlying105 info_rule (by decide) _ _ rfl HOW.out HBZ.out HNN.out rfl rfl rfl rfl ?_; intro ao5 c5 w5 hown hbel hkp; have HO5 := Lib.hid hown; have HB5 := Lib.hid hbel; have HK5 := Lib.hid hkp; clear hown hbel hkp)
   go_roundw
   case rel => exact ⟨k + 1, ao5, c5, HLK.out, rfl, by go_num, HI.out.below.trans HB5.out, by
     have e : (each ++ List.replicate (k + 1) r).flatMap Rule.cells = (each ++ List.replicate k r).flatMap Rule.cells ++ r.cells := by rw [List.replicate_succ', ← List.append_assoc, List.flatMap_append]; simp
     rw [e]
     first | exact HO5.out | (rw [HCE.out]; exact HO5.out), RowIs.keeps HI.out.rule HK5.out⟩
   case measure => have := HLK.out; simp only [intOf]; omega
end Go.Proofs.YtgimdkgjfenafaaGreatDoor
namespace Go.Proofs.YtgimdkgjfenafaaGreatDoor
open Go.RowKit
def Rule.cl : Rule → Cls
 | .bind _ k => k | .nums => .num | _ => .any
theorem cls_num (r : Rule) : r.clsP = r.cl.num' := by cases r <;> rfl
theorem fits_of {r : Rule} {F : Bnd} {t : ByteArray} (h : (r.sortP == 7) = true) : r.fits F t = ofC t r.cl := by
 cases r <;> first | rfl | (simp [Rule.sortP] at h; done)
theorem fits_only {r : Rule} {F : Bnd} {t : ByteArray} (h7 : (r.sortP == 7) = false) (h2 : (r.sortP == 2) = false) : r.fits F t = (t.toList == (onlyL F r).toList) := by
 rw [ByteArray.toList_eq, ByteArray.toList_eq]
 cases r <;> first | rfl | (simp [Rule.sortP] at h7; done) | (simp [Rule.sortP] at h2; done)
theorem fit_step {rs : List Rule} {l : List ByteArray} {m : Nat} {F : Bnd} {r : Rule} {t : ByteArray} (h : rs[m]? = some r) (ht : l[m]? = some t) (hf : r.fits F t = true) : fitL (rs.drop m) (l.drop m) F = fitL (rs.drop (m + 1)) (l.drop (m + 1)) (r.binds t F) := by
 obtain ⟨hl, hv⟩ := List.getElem?_eq_some_iff.1 h
 obtain ⟨hl', hv'⟩ := List.getElem?_eq_some_iff.1 ht
 rw [List.drop_eq_getElem_cons hl, hv, List.drop_eq_getElem_cons hl', hv', fitL, if_pos hf]
theorem fit_stop {rs : List Rule} {l : List ByteArray} {m : Nat} {F : Bnd} {r : Rule} {t : ByteArray} (h : rs[m]? = some r) (ht : l[m]? = some t) (hf : r.fits F t = false) : fitL (rs.drop m) (l.drop m) F = none := by
 obtain ⟨hl, hv⟩ := List.getElem?_eq_some_iff.1 h
 obtain ⟨hl', hv'⟩ := List.getElem?_eq_some_iff.1 ht
 rw [List.drop_eq_getElem_cons hl, hv, List.drop_eq_getElem_cons hl', hv', fitL, if_neg (by rw [hf]; decide)]
theorem strs_at {w : World} {a : Addr} {ss : List ByteArray} {m : Nat} {t : ByteArray} (h : StrsAt w (some a) ss) (ht : ss[m]? = some t) : w.cell? (a.add m) = some (.string t) := by
 obtain ⟨hl, hv⟩ := List.getElem?_eq_some_iff.1 ht
 rcases h with h | ⟨a', e, hc⟩
 ·rw [h] at hl; exact absurd hl (Nat.not_lt_zero _)
 ·cases e
  have := hc m hl
  rw [ht] at this
  exact this
def FitP (B : Nat) (w0 : World) (rs : List Rule) (l : List ByteArray) (mb c : Nat) (F : Bnd) (w : World) (e : Ending) (w' : World) : Prop := Below B w0 w' ∧ w.grownBy w' (some mb) ∧
 ((fitL rs l F = none ∧ e = .returned (.bool false)) ∨ ∃ F', fitL rs l F = some F' ∧ e = .returned (.bool true) ∧ SMap w' mb (c + rs.length) F')
structure FtS (B : Nat) (w0 : World) (rs : List Rule) (l : List ByteArray) (mb c : Nat) (F : Bnd) (w : World) (m : Nat) (F' : Bnd) (wr : World) : Prop where
 below : Below B w0 wr
 grown : w.grownBy wr (some mb)
 map : SMap wr mb (c + m) F'
 so : fitL rs l F = fitL (rs.drop m) (l.drop m) F'
set_option maxHeartbeats 32000000 in
set_option maxRecDepth 100000 in
theorem vFit_any (ra : Option Addr) (rs : List Rule) (rc : Nat) (la : Option Addr) (l : List ByteArray) (lc : Nat) (hn : rs.length = l.length) (hl : l.length ≤ 1048576) (hz : ∀ s ∈ l, s.size ≤ maxLen) (mb c : Nat) (hc : c ≤ 2000000) (F : Bnd) (w0 w : World) (hE : Env w0) (hB : Below w0.heap.size w0 w) (hmb : w0.heap.size ≤ mb) (hR : RulesAt w ra rs) (hL : StrsAt w la l) (hM : SMap w mb c F) :
  Calls Tryz.prog 49 #[.map (some mb), .slice ra rs.length rc, .slice la l.length lc] w (FitP w0.heap.size w0 rs l mb c F w) := by
 obtain ⟨ob, ho1, ho2⟩ := MapS.obj hM
 have HOB := Lib.hid (And.intro ho1 ho2)
 have HR := Lib.hid hR
 have HL := Lib.hid hL
 have HE := Lib.hid hE
 have HZ := Lib.hid hz
 have HM := Lib.hid hM
 have HB := Lib.hid hB
 have HMB := Lib.hid hmb
 have HN := Lib.hid hn
 have HLN := Lib.hid hl
 have HCC := Lib.hid hc
 have hri : (rs.length : Int) ≤ 1048576 := by omega
 have hrl : (rs.length : Int) = (l.length : Int) := by omega
 clear hR hL hE hz hM hB hmb hn hl hc ho1 ho2
 go_enter Tryz.func49, Tryz.ntmps49
 go_wp2_with fail
 go_step3
 go_wp2_with fail
 go_step3
 go_wp2_with fail
 go_loopw [7, 12] (fun kv iv wr => ∃ (m : Nat) (F' : Bnd), m ≤ rs.length ∧ kv = .bool true ∧ iv = .int .i64 m ∧ Hid (FtS w0.heap.size w0 rs l mb c F w m F' wr)) (fun _ iv _ => rs.length - (intOf iv).toNat)
 case atStart => exact ⟨0, F, Nat.zero_le _, rfl, rfl, HB.out, ⟨rfl, rfl, rfl, Nat.le_refl _, fun _ _ _ => rfl⟩, HM.out, rfl⟩
 case round =>
  obtain ⟨m, F', hmm, rfl, rfl, HC⟩ := hrel
  by_cases hlt : m < rs.length
  rotate_left
  ·obtain rfl : m = rs.length := by omega
   have HX := Lib.hid (show fitL rs l F = some F' by rw [HC.out.so, List.drop_length]; rfl)
   clear hlt hmm
   go_wp2_with fail
   try rw [Exit.noGoto_ret]
   go_ret
   exact ⟨HC.out.below, HC.out.grown, .inr ⟨F', HX.out, rfl, HC.out.map⟩⟩
  have hz := List.getElem?_eq_getElem hlt
  generalize rs[m]'hlt = r at hz
  have hjs := List.getElem?_eq_getElem (show m < l.length by omega)
  generalize l[m]'(by omega) = t at hjs
  have HKP := Lib.hid (grown_keeps HC.out.grown HOB.out.1 HOB.out.2)
  obtain ⟨bk, o, rfl, hc⟩ := RowIs.at rule_len (RowIs.keeps HR.out HKP.out) hz
  obtain ⟨a, rfl⟩ : ∃ a, la = some a := by
   rcases HL.out with h0 | ⟨a, h, _⟩
   ·rw [h0] at hjs; cases hjs
   ·exact ⟨a, h⟩
  have HCL := Lib.hid (strs_at (strs_keeps HL.out HKP.out) hjs)
  have HTS := Lib.hid (HZ.out t (List.mem_of_getElem? hjs))
  have HG := Lib.hid hz
  have HJ := Lib.hid hjs
  have HLT := Lib.hid hlt
  have hlti : (m : Int) < (rs.length : Int) := by omega
  have hltl : (m : Int) < (l.length : Int) := by omega
  clear hz hjs hlt hmm
  cases h2 : (r.sortP == 2)
  rotate_left
  ·obtain ⟨v, cl, rfl⟩ : ∃ v cl, r = .bind v cl := by
     cases r <;> first | exact ⟨_, _, rfl⟩ | exact absurd h2 (by simp [Rule.sortP])
   clear h2
   have HBN := Lib.hid (show (Rule.bind v cl).binds t F' = setAt F' (v.toNat : Int) t from rfl)
   have HFT := Lib.hid (show (Rule.bind v cl).fits F' t = ofC t cl from rfl)
   have HMI := Lib.hid (show c + m < 4611686018427387904 by have := HLT.out; have := HCC.out; have := HN.out; have := HLN.out; omega)
   have q0 := hc 0 (.int .i64 2) (by first | rfl | (rw [HCE.out]; rfl))
   have q1 := hc 1 (.int .i64 cl.num') (by first | rfl | (rw [HCE.out]; rfl))
   have q2 := hc 2 (.int .i32 (v.toNat : Int)) (by first | rfl | (rw [HCE.out]; rfl))
   have q3 := hc 3 (.string ⟨#[]⟩) (by first | rfl | (rw [HCE.out]; rfl))
   rw [Nat.add_zero] at q0
   clear hc
   have HT := Lib.hid (heap_alloc_new wr (.cells #[.int .i64 2, .int .i64 cl.num', .int .i32 (v.toNat : Int), .string ⟨#[]⟩] 125))
   have HNB := Lib.hid (new_below wr (.cells #[.int .i64 2, .int .i64 cl.num', .int .i32 (v.toNat : Int), .string ⟨#[]⟩] 125))
   have HDM := Lib.hid (Nat.ne_of_gt (MapS.lt HC.out.map))
   go_upto_region 5 with fail
   generalize wr.alloc (.cells #[.int .i64 2, .int .i64 cl.num', .int .i32 (v.toNat : Int), .string ⟨#[]⟩] 125) = W3 at HT HNB ⊢
   generalize wr.heap.size = D at HT HDM ⊢
   clear q0 q1 q2 q3
   have HB3 := Lib.hid (HC.out.below.trans (HNB.out.mono HC.out.below.size))
   have HG3 := Lib.hid (grown_tr HC.out.grown (grown_below HNB.out))
   have HM3 := Lib.hid (MapS.below HC.out.map HNB.out)
   replace HCL := Lib.hid ((Keeps.of_below HNB.out) _ _ HCL.out)
   have HSO := Lib.hid HC.out.so
   clear HC HNB HKP
   obtain ⟨c0, c1, c2, c3, cf⟩ := dcells4 HT.out
   go_upto_region 8 with fail
   clear c0 c1 c2 c3 cf
   refine wp_region_held_drew (S := fun w' => Hid (Keeps W3 w')) (by kernel_rfl) (fun _ _ h => h) (fun hHeld => ?_)
   have HMV := Lib.hid (MapS.below HM3.out (Below.refl W3.heap.size W3).drew)
   have HBV := Lib.hid (HB3.out.drew)
   have HGV := Lib.hid (show w.grownBy W3.drew (some mb) from grown_tr HG3.out (grown_below (Below.refl W3.heap.size W3).drew))
   have HTV := Lib.hid (show W3.drew.heap[D]? = _ from HT.out)
   have HC1 := Lib.hid (fun (X : World) (h : Hid (Keeps W3 X)) => (show X.cell? ⟨D, 1, none⟩ = some (.int .i64 cl.num') from h.out _ _ (dcells4 HT.out).2.1))
   have HC2 := Lib.hid (fun (X : World) (h : Hid (Keeps W3 X)) => (show X.cell? ⟨D, 2, none⟩ = some (.int .i32 (v.toNat : Int)) from h.out _ _ (dcells4 HT.out).2.2.1))
   have HC3 := Lib.hid (fun (X : World) (h : Hid (Keeps W3 X)) => (show X.cell? (a.add m) = some (.string t) from h.out _ _ HCL.out))
   have HC0 := Lib.hid (fun (X : World) (h : Hid (Keeps W3 X)) => (show X.cell? ⟨D, 0, none⟩ = some (.int .i64 2) ∧ X.cell? ⟨D, 3, none⟩ = some (.string ⟨#[]⟩) from ⟨h.out _ _ (dcells4 HT.out).1, h.out _ _ (dcells4 HT.out).2.2.2.1⟩))
   generalize W3.drew = V0 at hHeld HMV HBV HGV HTV ⊢
   obtain ⟨w5, hru, hmp, hgr⟩ := MapS.put (T := 113) HMV.out Tryz.underlying113 Tryz.underlying21 Tryz.underlying9 HMI.out (i32_key v) HTS.out
   obtain ⟨ob5, ho1, ho2⟩ := MapS.obj HMV.out
   have HK5 := Lib.hid (grown_keeps hgr ho1 ho2)
   have HM5 := Lib.hid hmp
   have HG5 := Lib.hid hgr
   have HRU := Lib.hid hru
   clear hmp hgr ho1 ho2 hru
   refine wpAnyH_take (i := 0) (v := .map (some mb)) rfl (by kernel_rfl) (by kernel_rfl) (by kernel_rfl) (fun _ _ _ h => h) (Or.inl ⟨by rfl, ?_⟩) hHeld ?_
   ·intro w9 hSw
    go_simp
   simp only [Act.put, sA, sC, sD, sE, sF]
   refine wpAnyH_take (i := 1) (v := .pointer (some ⟨D, 2, none⟩)) rfl (by kernel_rfl) (by kernel_rfl) (by kernel_rfl) (fun _ _ _ h => h) (Or.inl ⟨by rfl, ?_⟩) hHeld ?_
   ·intro w9 hSw
    go_simp
   simp only [Act.put, sA, sB, sC, sD, sE, sF]
   refine wpAnyH_take (i := 2) (v := .int .i32 (v.toNat : Int)) rfl (by kernel_rfl) (by kernel_rfl) (by kernel_rfl) (fun _ _ _ h => h) (Or.inl ⟨by rfl, ?_⟩) hHeld ?_
   ·intro w9 hSw
    have hcc := HC2.out w9 hSw
    go_simp
   simp only [Act.put, sA, sB, sC, sD, sE, sF]
   refine wpAnyH_take (i := 3) (v := .slice (some a) l.length lc) rfl (by kernel_rfl) (by kernel_rfl) (by kernel_rfl) (fun _ _ _ h => h) (Or.inl ⟨by rfl, ?_⟩) hHeld ?_
   ·intro w9 hSw
    go_simp
   simp only [Act.put, sA, sB, sC, sD, sE, sF]
   refine wpAnyH_take (i := 4) (v := .int .i64 (m : Int)) rfl (by kernel_rfl) (by kernel_rfl) (by kernel_rfl) (fun _ _ _ h => h) (Or.inl ⟨by rfl, ?_⟩) hHeld ?_
   ·intro w9 hSw
    go_simp
   simp only [Act.put, sA, sB, sC, sD, sE, sF]
   refine wpAnyH_take (i := 5) (v := .pointer (some (a.add m))) rfl (by kernel_rfl) (by kernel_rfl) (by kernel_rfl) (fun _ _ _ h => h) (Or.inl ⟨by rfl, ?_⟩) hHeld ?_
   ·intro w9 hSw
    go_simp
   simp only [Act.put, sA, sB, sC, sD, sE, sF]
   refine wpAnyH_take (i := 6) (v := .string t) rfl (by kernel_rfl) (by kernel_rfl) (by kernel_rfl) (fun _ _ _ h => h) (Or.inl ⟨by rfl, ?_⟩) hHeld ?_
   ·intro w9 hSw
    have hcc := HC3.out w9 hSw
    go_simp
   simp only [Act.put, sA, sB, sC, sD, sE, sF]
   refine wpAnyH_ready (rs := [7]) (by kernel_rfl) (by simp) ?_
   refine AllReadyH.cons rfl (fun K hK => ?_) AllReadyH.nil
   have hru := HRU.out
   go_simp
   refine hK.out _ _ (show Hid (Keeps W3 w5) from hHeld.out.trans HK5.out) (fun hEnd => ?_)
   clear hK K hru
   try simp only [Act.put, sA, sB, sC, sD, sE, sF]
   refine wpAnyH_done (by kernel_rfl) ?_ _
   replace HB3 := Lib.hid (HBV.out.grown HG5.out HBV.out.size (fun k e => by cases e; exact HMB.out))
   replace HG3 := Lib.hid (grown_tr HGV.out HG5.out)
   replace HM3 := HM5
   replace HT := Lib.hid ((HG5.out.block D (lt_of_block HTV.out) (fun e => HDM.out (Option.some.inj e))).trans HTV.out)
   replace HCL := Lib.hid (hEnd.out _ _ HCL.out)
   clear HM5 HBV HGV HTV HMV HG5 hHeld hEnd HC0 HC1 HC2 HC3 HRU HK5
   obtain ⟨c0, c1, c2, c3, cf⟩ := dcells4 HT.out
   go_upto_region 9 with fail
   clear c0 c1 c2 c3 cf
   refine wp_region_held_drew (S := fun w' => Hid (Keeps w5 w')) (by kernel_rfl) (fun _ _ h => h) (fun hHeld => ?_)
   have HMV := Lib.hid (MapS.below HM3.out (Below.refl w5.heap.size w5).drew)
   have HBV := Lib.hid (HB3.out.drew)
   have HGV := Lib.hid (show w.grownBy w5.drew (some mb) from grown_tr HG3.out (grown_below (Below.refl w5.heap.size w5).drew))
   have HTV := Lib.hid (show w5.drew.heap[D]? = _ from HT.out)
   have HC1 := Lib.hid (fun (X : World) (h : Hid (Keeps w5 X)) => (show X.cell? ⟨D, 1, none⟩ = some (.int .i64 cl.num') from h.out _ _ (dcells4 HT.out).2.1))
   have HC2 := Lib.hid (fun (X : World) (h : Hid (Keeps w5 X)) => (show X.cell? ⟨D, 2, none⟩ = some (.int .i32 (v.toNat : Int)) from h.out _ _ (dcells4 HT.out).2.2.1))
   have HC3 := Lib.hid (fun (X : World) (h : Hid (Keeps w5 X)) => (show X.cell? (a.add m) = some (.string t) from h.out _ _ HCL.out))
   have HC0 := Lib.hid (fun (X : World) (h : Hid (Keeps w5 X)) => (show X.cell? ⟨D, 0, none⟩ = some (.int .i64 2) ∧ X.cell? ⟨D, 3, none⟩ = some (.string ⟨#[]⟩) from ⟨h.out _ _ (dcells4 HT.out).1, h.out _ _ (dcells4 HT.out).2.2.2.1⟩))
   generalize w5.drew = V0 at hHeld HMV HBV HGV HTV ⊢
   refine wpAnyH_take (i := 0) (v := .slice (some a) l.length lc) rfl (by kernel_rfl) (by kernel_rfl) (by kernel_rfl) (fun _ _ _ h => h) (Or.inl ⟨by rfl, ?_⟩) hHeld ?_
   ·intro w9 hSw
    go_simp
   simp only [Act.put, sA, sC, sD, sE, sF]
   refine wpAnyH_take (i := 1) (v := .int .i64 (m : Int)) rfl (by kernel_rfl) (by kernel_rfl) (by kernel_rfl) (fun _ _ _ h => h) (Or.inl ⟨by rfl, ?_⟩) hHeld ?_
   ·intro w9 hSw
    go_simp
   simp only [Act.put, sA, sB, sC, sD, sE, sF]
   refine wpAnyH_take (i := 2) (v := .pointer (some (a.add m))) rfl (by kernel_rfl) (by kernel_rfl) (by kernel_rfl) (fun _ _ _ h => h) (Or.inl ⟨by rfl, ?_⟩) hHeld ?_
   ·intro w9 hSw
    go_simp
   simp only [Act.put, sA, sB, sC, sD, sE, sF]
   refine wpAnyH_take (i := 3) (v := .string t) rfl (by kernel_rfl) (by kernel_rfl) (by kernel_rfl) (fun _ _ _ h => h) (Or.inl ⟨by rfl, ?_⟩) hHeld ?_
   ·intro w9 hSw
    have hcc := HC3.out w9 hSw
    go_simp
   simp only [Act.put, sA, sB, sC, sD, sE, sF]
   refine wpAnyH_take (i := 4) (v := .pointer (some ⟨D, 1, none⟩)) rfl (by kernel_rfl) (by kernel_rfl) (by kernel_rfl) (fun _ _ _ h => h) (Or.inl ⟨by rfl, ?_⟩) hHeld ?_
   ·intro w9 hSw
    go_simp
   simp only [Act.put, sA, sB, sC, sD, sE, sF]
   refine wpAnyH_take (i := 5) (v := .int .i64 cl.num') rfl (by kernel_rfl) (by kernel_rfl) (by kernel_rfl) (fun _ _ _ h => h) (Or.inl ⟨by rfl, ?_⟩) hHeld ?_
   ·intro w9 hSw
    have hcc := HC1.out w9 hSw
    go_simp
   simp only [Act.put, sA, sB, sC, sD, sE, sF]
   have HCI := Lib.hid (isOf_any t cl V0 (HE.out.below HBV.out))
   refine wpAnyH_ready (rs := [6]) (by kernel_rfl) (by simp) ?_
   refine AllReadyH.cons rfl (fun K hK => ?_) AllReadyH.nil
   go_simp
   go_at_call 86
   with_reducible refine HCI.out.mono ?_
   rintro e w4 ⟨rfl, hb⟩
   try dsimp only
   have HB4 := Lib.hid (HBV.out.trans (hb.mono HBV.out.size))
   have HG4 := Lib.hid (grown_tr HGV.out (grown_below hb))
   have HM4 := Lib.hid (MapS.below HMV.out hb)
   refine hK.out _ _ (show Hid (Keeps w5 w4) from hHeld.out.trans (Keeps.of_below hb)) (fun hEnd => ?_)
   clear hK K hb hHeld HCI HMV HBV HGV HTV HC0 HC1 HC2 HC3
   have hHeld := hEnd
   clear hEnd
   try simp only [Act.put, sA, sB, sC, sD, sE, sF]
   cases hof : ofC t cl
   ·have HOF := Lib.hid hof
    clear hof
    refine wpAnyH_take (i := 7) (v := .bool true) rfl (by kernel_rfl) (by kernel_rfl) (by kernel_rfl) (fun _ _ _ h => h) (Or.inl ⟨by rfl, ?_⟩) hHeld ?_
    ·intro w9 hSw
     go_simp
    simp only [Act.put, sA, sB, sC, sD, sE, sF]
    refine wpAnyH_done (by kernel_rfl) ?_ _
    have HNX := Lib.hid (fit_stop (F := F') HG.out HJ.out (by rw [HFT.out]; exact HOF.out))
    go_wp2_with fail
    try rw [Exit.noGoto_ret]
    go_ret
    exact ⟨HB4.out, HG4.out, .inl ⟨HSO.out.trans HNX.out, rfl⟩⟩
   ·have HOF := Lib.hid hof
    clear hof
    refine wpAnyH_take (i := 7) (v := .bool false) rfl (by kernel_rfl) (by kernel_rfl) (by kernel_rfl) (fun _ _ _ h => h) (Or.inl ⟨by rfl, ?_⟩) hHeld ?_
    ·intro w9 hSw
     go_simp
    simp only [Act.put, sA, sB, sC, sD, sE, sF]
    refine wpAnyH_done (by kernel_rfl) ?_ _
    have HNX := Lib.hid (fit_step (F := F') HG.out HJ.out (by rw [HFT.out]; exact HOF.out))
    rw [HBN.out] at HNX
    go_wp2_with fail
    go_roundw
    case rel => exact ⟨m + 1, _, HLT.out, rfl, by go_num, HB4.out, HG4.out, HM4.out, HSO.out.trans HNX.out⟩
    case measure => have := HLT.out; simp only [intOf]; omega
  cases h7 : (r.sortP == 7)
  rotate_left
  ·obtain ⟨cl, hcl⟩ : ∃ cl, cl = r.cl := ⟨_, rfl⟩
   have HBN := Lib.hid (none_binds (F := F') (t := t) h2)
   have HFT := Lib.hid (show r.fits F' t = ofC t cl by rw [hcl]; exact fits_of h7)
   obtain ⟨p, hp⟩ : ∃ p, p = r.sortP := ⟨_, rfl⟩
   obtain ⟨v, hv⟩ : ∃ v, v = (r.v.toNat : Int) := ⟨_, rfl⟩
   obtain ⟨tx, htx⟩ : ∃ tx, tx = r.textP := ⟨_, rfl⟩
   have HCE := Lib.hid (show r.cells = [.int .i64 p, .int .i64 cl.num', .int .i32 v, .string tx] by rw [hp, hcl, ← cls_num, hv, htx]; rfl)
   obtain rfl : p = 7 := by rw [hp]; exact beq_iff_eq.1 h7
   clear h7 h2 hp hcl hv htx
   have q0 := hc 0 (.int .i64 7) (by first | rfl | (rw [HCE.out]; rfl))
   have q1 := hc 1 (.int .i64 cl.num') (by first | rfl | (rw [HCE.out]; rfl))
   have q2 := hc 2 (.int .i32 v) (by first | rfl | (rw [HCE.out]; rfl))
   have q3 := hc 3 (.string tx) (by first | rfl | (rw [HCE.out]; rfl))
   rw [Nat.add_zero] at q0
   clear hc
   have HT := Lib.hid (heap_alloc_new wr (.cells #[.int .i64 7, .int .i64 cl.num', .int .i32 v, .string tx] 125))
   have HNB := Lib.hid (new_below wr (.cells #[.int .i64 7, .int .i64 cl.num', .int .i32 v, .string tx] 125))
   have HDM := Lib.hid (Nat.ne_of_gt (MapS.lt HC.out.map))
   go_upto_region 5 with fail
   generalize wr.alloc (.cells #[.int .i64 7, .int .i64 cl.num', .int .i32 v, .string tx] 125) = W3 at HT HNB ⊢
   generalize wr.heap.size = D at HT HDM ⊢
   clear q0 q1 q2 q3
   have HB3 := Lib.hid (HC.out.below.trans (HNB.out.mono HC.out.below.size))
   have HG3 := Lib.hid (grown_tr HC.out.grown (grown_below HNB.out))
   have HM3 := Lib.hid (MapS.below HC.out.map HNB.out)
   replace HCL := Lib.hid ((Keeps.of_below HNB.out) _ _ HCL.out)
   have HSO := Lib.hid HC.out.so
   clear HC HNB HKP
   obtain ⟨c0, c1, c2, c3, cf⟩ := dcells4 HT.out
   go_upto_region 9 with fail
   clear c0 c1 c2 c3 cf
   refine wp_region_held_drew (S := fun w' => Hid (Keeps W3 w')) (by kernel_rfl) (fun _ _ h => h) (fun hHeld => ?_)
   have HMV := Lib.hid (MapS.below HM3.out (Below.refl W3.heap.size W3).drew)
   have HBV := Lib.hid (HB3.out.drew)
   have HGV := Lib.hid (show w.grownBy W3.drew (some mb) from grown_tr HG3.out (grown_below (Below.refl W3.heap.size W3).drew))
   have HTV := Lib.hid (show W3.drew.heap[D]? = _ from HT.out)
   have HC1 := Lib.hid (fun (X : World) (h : Hid (Keeps W3 X)) => (show X.cell? ⟨D, 1, none⟩ = some (.int .i64 cl.num') from h.out _ _ (dcells4 HT.out).2.1))
   have HC2 := Lib.hid (fun (X : World) (h : Hid (Keeps W3 X)) => (show X.cell? ⟨D, 2, none⟩ = some (.int .i32 v) from h.out _ _ (dcells4 HT.out).2.2.1))
   have HC3 := Lib.hid (fun (X : World) (h : Hid (Keeps W3 X)) => (show X.cell? (a.add m) = some (.string t) from h.out _ _ HCL.out))
   have HC0 := Lib.hid (fun (X : World) (h : Hid (Keeps W3 X)) => (show X.cell? ⟨D, 0, none⟩ = some (.int .i64 7) ∧ X.cell? ⟨D, 3, none⟩ = some (.string tx) from ⟨h.out _ _ (dcells4 HT.out).1, h.out _ _ (dcells4 HT.out).2.2.2.1⟩))
   generalize W3.drew = V0 at hHeld HMV HBV HGV HTV ⊢
   refine wpAnyH_take (i := 0) (v := .slice (some a) l.length lc) rfl (by kernel_rfl) (by kernel_rfl) (by kernel_rfl) (fun _ _ _ h => h) (Or.inl ⟨by rfl, ?_⟩) hHeld ?_
   ·intro w9 hSw
    go_simp
   simp only [Act.put, sA, sC, sD, sE, sF]
   refine wpAnyH_take (i := 1) (v := .int .i64 (m : Int)) rfl (by kernel_rfl) (by kernel_rfl) (by kernel_rfl) (fun _ _ _ h => h) (Or.inl ⟨by rfl, ?_⟩) hHeld ?_
   ·intro w9 hSw
    go_simp
   simp only [Act.put, sA, sB, sC, sD, sE, sF]
   refine wpAnyH_take (i := 2) (v := .pointer (some (a.add m))) rfl (by kernel_rfl) (by kernel_rfl) (by kernel_rfl) (fun _ _ _ h => h) (Or.inl ⟨by rfl, ?_⟩) hHeld ?_
   ·intro w9 hSw
    go_simp
   simp only [Act.put, sA, sB, sC, sD, sE, sF]
   refine wpAnyH_take (i := 3) (v := .string t) rfl (by kernel_rfl) (by kernel_rfl) (by kernel_rfl) (fun _ _ _ h => h) (Or.inl ⟨by rfl, ?_⟩) hHeld ?_
   ·intro w9 hSw
    have hcc := HC3.out w9 hSw
    go_simp
   simp only [Act.put, sA, sB, sC, sD, sE, sF]
   refine wpAnyH_take (i := 4) (v := .pointer (some ⟨D, 1, none⟩)) rfl (by kernel_rfl) (by kernel_rfl) (by kernel_rfl) (fun _ _ _ h => h) (Or.inl ⟨by rfl, ?_⟩) hHeld ?_
   ·intro w9 hSw
    go_simp
   simp only [Act.put, sA, sB, sC, sD, sE, sF]
   refine wpAnyH_take (i := 5) (v := .int .i64 cl.num') rfl (by kernel_rfl) (by kernel_rfl) (by kernel_rfl) (fun _ _ _ h => h) (Or.inl ⟨by rfl, ?_⟩) hHeld ?_
   ·intro w9 hSw
    have hcc := HC1.out w9 hSw
    go_simp
   simp only [Act.put, sA, sB, sC, sD, sE, sF]
   have HCI := Lib.hid (isOf_any t cl V0 (HE.out.below HBV.out))
   refine wpAnyH_ready (rs := [6]) (by kernel_rfl) (by simp) ?_
   refine AllReadyH.cons rfl (fun K hK => ?_) AllReadyH.nil
   go_simp
   go_at_call 86
   with_reducible refine HCI.out.mono ?_
   rintro e w4 ⟨rfl, hb⟩
   try dsimp only
   have HB4 := Lib.hid (HBV.out.trans (hb.mono HBV.out.size))
   have HG4 := Lib.hid (grown_tr HGV.out (grown_below hb))
   have HM4 := Lib.hid (MapS.below HMV.out hb)
   refine hK.out _ _ (show Hid (Keeps W3 w4) from hHeld.out.trans (Keeps.of_below hb)) (fun hEnd => ?_)
   clear hK K hb hHeld HCI HMV HBV HGV HTV HC0 HC1 HC2 HC3
   have hHeld := hEnd
   clear hEnd
   try simp only [Act.put, sA, sB, sC, sD, sE, sF]
   cases hof : ofC t cl
   ·have HOF := Lib.hid hof
    clear hof
    refine wpAnyH_take (i := 7) (v := .bool true) rfl (by kernel_rfl) (by kernel_rfl) (by kernel_rfl) (fun _ _ _ h => h) (Or.inl ⟨by rfl, ?_⟩) hHeld ?_
    ·intro w9 hSw
     go_simp
    simp only [Act.put, sA, sB, sC, sD, sE, sF]
    refine wpAnyH_done (by kernel_rfl) ?_ _
    have HNX := Lib.hid (fit_stop (F := F') HG.out HJ.out (by rw [HFT.out]; exact HOF.out))
    go_wp2_with fail
    try rw [Exit.noGoto_ret]
    go_ret
    exact ⟨HB4.out, HG4.out, .inl ⟨HSO.out.trans HNX.out, rfl⟩⟩
   ·have HOF := Lib.hid hof
    clear hof
    refine wpAnyH_take (i := 7) (v := .bool false) rfl (by kernel_rfl) (by kernel_rfl) (by kernel_rfl) (fun _ _ _ h => h) (Or.inl ⟨by rfl, ?_⟩) hHeld ?_
    ·intro w9 hSw
     go_simp
    simp only [Act.put, sA, sB, sC, sD, sE, sF]
    refine wpAnyH_done (by kernel_rfl) ?_ _
    have HNX := Lib.hid (fit_step (F := F') HG.out HJ.out (by rw [HFT.out]; exact HOF.out))
    rw [HBN.out] at HNX
    go_wp2_with fail
    go_roundw
    case rel => exact ⟨m + 1, F', HLT.out, rfl, by go_num, HB4.out, HG4.out, MapS.mono HM4.out (by omega), HSO.out.trans HNX.out⟩
    case measure => have := HLT.out; simp only [intOf]; omega
  obtain ⟨q, hq⟩ : ∃ q, q = r.clsP := ⟨_, rfl⟩
  have HBN := Lib.hid (none_binds (F := F') (t := t) h2)
  obtain ⟨z, hz⟩ : ∃ z, z = onlyL F' r := ⟨_, rfl⟩
  have HFT := Lib.hid (show r.fits F' t = (t.toList == z.toList) by rw [hz]; exact fits_only h7 h2)
  obtain ⟨p, hp⟩ : ∃ p, p = r.sortP := ⟨_, rfl⟩
  obtain ⟨v, hv⟩ : ∃ v, v = (r.v.toNat : Int) := ⟨_, rfl⟩
  obtain ⟨tx, htx⟩ : ∃ tx, tx = r.textP := ⟨_, rfl⟩
  have HCE := Lib.hid (show r.cells = [.int .i64 p, .int .i64 q, .int .i32 v, .string tx] by rw [hp, hq, hv, htx]; rfl)
  have HPV := Lib.hid (show r.pval = .agg #[.int .i64 p, .int .i64 q, .int .i32 v, .string tx] by rw [hp, hq, hv, htx]; rfl)
  have HZE := Lib.hid hz
  rw [← hp] at h7 h2
  clear hp hq hv htx hz
  have q0 := hc 0 (.int .i64 p) (by first | rfl | (rw [HCE.out]; rfl))
  have q1 := hc 1 (.int .i64 q) (by first | rfl | (rw [HCE.out]; rfl))
  have q2 := hc 2 (.int .i32 v) (by first | rfl | (rw [HCE.out]; rfl))
  have q3 := hc 3 (.string tx) (by first | rfl | (rw [HCE.out]; rfl))
  rw [Nat.add_zero] at q0
  clear hc
  have HT := Lib.hid (heap_alloc_new wr (.cells #[.int .i64 p, .int .i64 q, .int .i32 v, .string tx] 125))
  have HNB := Lib.hid (new_below wr (.cells #[.int .i64 p, .int .i64 q, .int .i32 v, .string tx] 125))
  have HDM := Lib.hid (Nat.ne_of_gt (MapS.lt HC.out.map))
  go_upto_region 5 with fail
  generalize wr.alloc (.cells #[.int .i64 p, .int .i64 q, .int .i32 v, .string tx] 125) = W3 at HT HNB ⊢
  generalize wr.heap.size = D at HT HDM ⊢
  clear q0 q1 q2 q3
  have HB3 := Lib.hid (HC.out.below.trans (HNB.out.mono HC.out.below.size))
  have HG3 := Lib.hid (grown_tr HC.out.grown (grown_below HNB.out))
  have HM3 := Lib.hid (MapS.below HC.out.map HNB.out)
  replace HCL := Lib.hid ((Keeps.of_below HNB.out) _ _ HCL.out)
  have HSO := Lib.hid HC.out.so
  clear HC HNB HKP
  obtain ⟨c0, c1, c2, c3, cf⟩ := dcells4 HT.out
  go_upto_region 11 with fail
  clear c0 c1 c2 c3 cf
  refine wp_region_held_drew (S := fun w' => Hid (Keeps W3 w')) (by kernel_rfl) (fun _ _ h => h) (fun hHeld => ?_)
  have HMV := Lib.hid (MapS.below HM3.out (Below.refl W3.heap.size W3).drew)
  have HBV := Lib.hid (HB3.out.drew)
  have HGV := Lib.hid (show w.grownBy W3.drew (some mb) from grown_tr HG3.out (grown_below (Below.refl W3.heap.size W3).drew))
  have HTV := Lib.hid (show W3.drew.heap[D]? = _ from HT.out)
  have HC1 := Lib.hid (fun (X : World) (h : Hid (Keeps W3 X)) => (show X.cell? ⟨D, 1, none⟩ = some (.int .i64 q) from h.out _ _ (dcells4 HT.out).2.1))
  have HC2 := Lib.hid (fun (X : World) (h : Hid (Keeps W3 X)) => (show X.cell? ⟨D, 2, none⟩ = some (.int .i32 v) from h.out _ _ (dcells4 HT.out).2.2.1))
  have HC3 := Lib.hid (fun (X : World) (h : Hid (Keeps W3 X)) => (show X.cell? (a.add m) = some (.string t) from h.out _ _ HCL.out))
  have HC0 := Lib.hid (fun (X : World) (h : Hid (Keeps W3 X)) => (show X.cell? ⟨D, 0, none⟩ = some (.int .i64 p) ∧ X.cell? ⟨D, 3, none⟩ = some (.string tx) from ⟨h.out _ _ (dcells4 HT.out).1, h.out _ _ (dcells4 HT.out).2.2.2.1⟩))
  generalize W3.drew = V0 at hHeld HMV HBV HGV HTV ⊢
  refine wpAnyH_take (i := 0) (v := .slice (some a) l.length lc) rfl (by kernel_rfl) (by kernel_rfl) (by kernel_rfl) (fun _ _ _ h => h) (Or.inl ⟨by rfl, ?_⟩) hHeld ?_
  ·intro w9 hSw
   go_simp
  simp only [Act.put, sA, sC, sD, sE, sF]
  refine wpAnyH_take (i := 1) (v := .int .i64 (m : Int)) rfl (by kernel_rfl) (by kernel_rfl) (by kernel_rfl) (fun _ _ _ h => h) (Or.inl ⟨by rfl, ?_⟩) hHeld ?_
  ·intro w9 hSw
   go_simp
  simp only [Act.put, sA, sB, sC, sD, sE, sF]
  refine wpAnyH_take (i := 2) (v := .pointer (some (a.add m))) rfl (by kernel_rfl) (by kernel_rfl) (by kernel_rfl) (fun _ _ _ h => h) (Or.inl ⟨by rfl, ?_⟩) hHeld ?_
  ·intro w9 hSw
   go_simp
  simp only [Act.put, sA, sB, sC, sD, sE, sF]
  refine wpAnyH_take (i := 3) (v := .string t) rfl (by kernel_rfl) (by kernel_rfl) (by kernel_rfl) (fun _ _ _ h => h) (Or.inl ⟨by rfl, ?_⟩) hHeld ?_
  ·intro w9 hSw
   have hcc := HC3.out w9 hSw
   go_simp
  simp only [Act.put, sA, sB, sC, sD, sE, sF]
  refine wpAnyH_take (i := 4) (v := .map (some mb)) rfl (by kernel_rfl) (by kernel_rfl) (by kernel_rfl) (fun _ _ _ h => h) (Or.inl ⟨by rfl, ?_⟩) hHeld ?_
  ·intro w9 hSw
   go_simp
  simp only [Act.put, sA, sB, sC, sD, sE, sF]
  refine wpAnyH_take (i := 5) (v := .agg #[.int .i64 p, .int .i64 q, .int .i32 v, .string tx]) rfl (by kernel_rfl) (by kernel_rfl) (by kernel_rfl) (fun _ _ _ h => h) (Or.inl ⟨by rfl, ?_⟩) hHeld ?_
  ·intro w9 hSw
   have hc0 := (HC0.out w9 hSw).1
   have hc1 := HC1.out w9 hSw
   have hc2 := HC2.out w9 hSw
   have hc3 := (HC0.out w9 hSw).2
   go_simp
  simp only [Act.put, sA, sB, sC, sD, sE, sF]
  have HCI := Lib.hid (vOnly_any r mb (c + m) F' V0 HMV.out (HE.out.below HBV.out))
  rw [HPV.out, ← HZE.out] at HCI
  refine wpAnyH_ready (rs := [6]) (by kernel_rfl) (by simp) ?_
  refine AllReadyH.cons rfl (fun K hK => ?_) AllReadyH.nil
  go_simp
  go_at_call 56
  with_reducible refine HCI.out.mono ?_
  rintro e w4 ⟨rfl, hb⟩
  try dsimp only
  have HB4 := Lib.hid (HBV.out.trans (hb.mono HBV.out.size))
  have HG4 := Lib.hid (grown_tr HGV.out (grown_below hb))
  have HM4 := Lib.hid (MapS.below HMV.out hb)
  refine hK.out _ _ (show Hid (Keeps W3 w4) from hHeld.out.trans (Keeps.of_below hb)) (fun hEnd => ?_)
  clear hK K hb hHeld HCI HMV HBV HGV HTV HC0 HC1 HC2 HC3
  have hHeld := hEnd
  clear hEnd
  try simp only [Act.put, sA, sB, sC, sD, sE, sF]
  cases hof : (t.toList == z.toList)
  ·have HOF := Lib.hid hof
   refine wpAnyH_take (i := 7) (v := .bool true) rfl (by kernel_rfl) (by kernel_rfl) (by kernel_rfl) (fun _ _ _ h => h) (Or.inl ⟨by rfl, ?_⟩) hHeld ?_
   ·intro w9 hSw
    go_simp
   simp only [Act.put, sA, sB, sC, sD, sE, sF]
   refine wpAnyH_done (by kernel_rfl) ?_ _
   clear hof
   have HNX := Lib.hid (fit_stop (F := F') HG.out HJ.out (by rw [HFT.out]; exact HOF.out))
   go_wp2_with fail
   try rw [Exit.noGoto_ret]
   go_ret
   exact ⟨HB4.out, HG4.out, .inl ⟨HSO.out.trans HNX.out, rfl⟩⟩
  ·have HOF := Lib.hid hof
   refine wpAnyH_take (i := 7) (v := .bool false) rfl (by kernel_rfl) (by kernel_rfl) (by kernel_rfl) (fun _ _ _ h => h) (Or.inl ⟨by rfl, ?_⟩) hHeld ?_
   ·intro w9 hSw
    go_simp
   simp only [Act.put, sA, sB, sC, sD, sE, sF]
   refine wpAnyH_done (by kernel_rfl) ?_ _
   clear hof
   have HNX := Lib.hid (fit_step (F := F') HG.out HJ.out (by rw [HFT.out]; exact HOF.out))
   rw [HBN.out] at HNX
   go_wp2_with fail
   go_roundw
   case rel => exact ⟨m + 1, F', HLT.out, rfl, by go_num, HB4.out, HG4.out, MapS.mono HM4.out (by omega), HSO.out.trans HNX.out⟩
   case measure => have := HLT.out; simp only [intOf]; omega
end Go.Proofs.YtgimdkgjfenafaaGreatDoor
