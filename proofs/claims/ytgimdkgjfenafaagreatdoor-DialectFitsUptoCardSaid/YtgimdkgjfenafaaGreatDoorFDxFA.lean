import Derived.Test.YtgimdkgjfenafaaGreatDoorG31
import Derived.Test.YtgimdkgjfenafaaGreatDoorG07
import Derived.Test.YtgimdkgjfenafaaGreatDoorG23
namespace Go.Proofs.YtgimdkgjfenafaaGreatDoor
open Go.RowKit
set_option maxHeartbeats 4000000 in
set_option maxRecDepth 100000 in
theorem searchNeed_any (ao : Option Addr) (es : List NeedD) (c : Nat) (s : ByteArray) (hn : es.length ≤ 9223372036854775807) (w : World) (h : RowIs w ao es.length (es.flatMap NeedD.cells)) :
  Calls Tryz.prog 95 #[.slice ao es.length c, .string s, .func (.func 96) #[] #[]] w (SearchNeed es s w) := by
 obtain ⟨W1, hW1⟩ : ∃ W1, W1 = w.alloc (.cells #[.string ⟨#[]⟩, .int .i64 0] 103) := ⟨_, rfl⟩
 have T1 : Hid (W1.heap[w.heap.size]? = some (.cells #[.string ⟨#[]⟩, .int .i64 0] 103 (0, 0))) := by
  show W1.heap[w.heap.size]? = _
  rw [hW1]
  exact heap_alloc_new _ _
 have B1 : Hid (Below w.heap.size w W1 ∧ w.heap.size < W1.heap.size) := by
  show Below _ _ _ ∧ _
  rw [hW1]
  exact ⟨(Below.refl _ w).alloc (Nat.le_refl _) _, by simp⟩
 have H := Lib.hid (RowIs.below h B1.out.1)
 have hni : (es.length : Int) ≤ 9223372036854775807 := by omega
 clear h hn
 go_enter Tryz.func95, Tryz.ntmps95
 go_upto_block 0 with fail
 rw [← hW1]
 clear hW1
 go_wp2_with fail
 go_loopw [12] (fun i wr => ∃ m : Nat, m ≤ es.length ∧ i = .int .i64 m ∧ Hid ((∀ j, j < m → ∀ y, es[j]? = some y → (fun y : NeedD => y.name.toList == s.toList) y = false) ∧ Below W1.heap.size W1 wr)) (fun i _ => es.length - (intOf i).toNat)
 case atStart => exact ⟨0, Nat.zero_le _, rfl, fun j hj => absurd hj (Nat.not_lt_zero _), Below.refl _ _⟩
 case round =>
  obtain ⟨m, hm, rfl, HA⟩ := hrel
  by_cases hlt : m < es.length
  rotate_left
  ·have hge : ¬ (m : Int) < (es.length : Int) := by omega
   have HN := Lib.hid (find_no (l := es) (p := (fun y : NeedD => y.name.toList == s.toList)) fun j hj => HA.out.1 j (by omega))
   have T2 := Lib.hid ((HA.out.2.block _ (lt_of_block T1.out)).trans T1.out)
   obtain ⟨c0, c1, cf⟩ := cells2 T2.out
   clear hlt hm
   go_wp2_with fail
   refine bodyPost_ret (v := .tuple #[.agg #[.string ⟨#[]⟩, .int .i64 0], .bool false]) (results_cell_tmp Tryz.results95 rfl rfl (needVar (set2_block T2.out))) rfl ?_
   exact ⟨below_set2 (B1.out.1.trans (HA.out.2.mono B1.out.1.size)) (Nat.le_refl _), .inr ⟨HN.out, rfl⟩⟩
  have hlti : (m : Int) < (es.length : Int) := by omega
  have hg := List.getElem?_eq_getElem hlt
  generalize es[m]'hlt = x at hg
  obtain ⟨bk, o, rfl, hx⟩ := RowIs.at need_len (H.out.below HA.out.2) hg
  have k0 : wr.cell? ⟨bk, o + m * 2, none⟩ = some (.string x.name) := hx 0 _ rfl
  have k1 : wr.cell? ⟨bk, o + m * 2 + 1, none⟩ = some (.int .i64 x.kind) := hx 1 _ rfl
  have HG := Lib.hid hg
  have HLT := Lib.hid hlt
  clear hx hg hlt hm
  go_upto_region 4 with fail
  clear k0 k1
  have HNB := Lib.hid (new_below wr (.cells #[.string x.name, .int .i64 x.kind] 103))
  have HT := Lib.hid (heap_alloc_new wr (.cells #[.string x.name, .int .i64 x.kind] 103))
  generalize wr.alloc (.cells #[.string x.name, .int .i64 x.kind] 103) = W3 at HNB HT ⊢
  have HDL := Lib.hid HA.out.2.size
  generalize hD : wr.heap.size = D at HT HNB HDL ⊢
  clear hD
  obtain ⟨d0, d1, df⟩ := cells2 HT.out
  go_wp2_with fail
  refine (nameOfNeed_any _ _ W3).mono ?_
  rintro e w4 ⟨rfl, hb⟩
  have HT4 := Lib.hid ((hb.block _ (lt_of_block HT.out)).trans HT.out)
  have HB4 := Lib.hid (show Below W1.heap.size W1 w4 from (HA.out.2.trans (HNB.out.mono HDL.out)).trans (hb.mono (Nat.le_trans HA.out.2.size HNB.out.size)))
  clear d0 d1 df hb
  cases heq : (x.name.toList == s.toList)
  ·have HF := Lib.hid (find_next HA.out.1 HG.out heq)
   go_wp2_with fail
   go_roundw
   case rel => exact ⟨m + 1, HLT.out, by go_num, HF.out, HB4.out⟩
   case measure => have := HLT.out; simp only [intOf]; omega
  ·have HF := Lib.hid (find_at HA.out.1 HG.out heq)
   have T2 := Lib.hid ((HB4.out.block _ (lt_of_block T1.out)).trans T1.out)
   obtain ⟨c0, c1, cf⟩ := cells2 T2.out
   obtain ⟨d0, d1, df⟩ := cells2 HT4.out
   go_wp2_with fail
   refine bodyPost_ret (v := .tuple #[.agg #[.string x.name, .int .i64 x.kind], .bool true]) (results_cell_tmp Tryz.results95 rfl rfl (needVar (set2_block T2.out))) rfl ?_
   exact ⟨below_set2 (B1.out.1.trans (HB4.out.mono B1.out.1.size)) (Nat.le_refl _), .inl ⟨x, HF.out, rfl⟩⟩
end Go.Proofs.YtgimdkgjfenafaaGreatDoor
namespace Go.Proofs.YtgimdkgjfenafaaGreatDoor
open Go.RowKit
structure RgnD where
 bo : Option Addr
 n : Nat
 c : Nat
def RgnD.cells (r : RgnD) : List Value := [.slice r.bo r.n r.c]
theorem rgn_len (x : RgnD) : x.cells.length = 1 := rfl
def blocksS : ByteArray := ⟨#[98, 108, 111, 99, 107, 115]⟩
def fewB (d : DefD) (n : Nat) : Bool := decide (n ≤ 1) || isIn d.traits blocksS
def regionsB (d : DefD) (rs : List RgnD) : Bool := rs.all (fun r : RgnD => fewB d r.n) && decide ((rs.length : Int) = d.regions)
theorem cells1r {w : World} {b : Nat} {T : TypeId} {v0 : Value} (h : w.heap[b]? = some (.cells #[v0] T (0, 0))) :
  w.cell? ⟨b, 0, none⟩ = some v0 ∧ ∀ j, w.frozen? ⟨b, j, none⟩ = false := by
 refine ⟨?_, fun j => ?_⟩ <;> simp [World.cell?, World.frozen?, h]
set_option maxHeartbeats 8000000 in
set_option maxRecDepth 100000 in
theorem hasRegions_any (x : DEl) (hf : DefFit x.d) (ro : Option Addr) (rs : List RgnD) (rc : Nat) (hn : rs.length ≤ 9223372036854775806) (w : World) (hd : DefOK w x) (hr : RowIs w ro rs.length (rs.flatMap RgnD.cells)) :
  Calls Tryz.prog 59 #[x.val, .slice ro rs.length rc] w fun e w' => e = .returned (.bool (regionsB x.d rs)) ∧ Below w.heap.size w w' := by
 have T0 := Lib.hid (heap_alloc_new w (.cells #[.string x.d.name, .slice x.io x.d.ins.length x.ic, .slice x.oo x.d.outs.length x.oc, .slice x.no x.d.needs.length x.nc, .int .i64 x.d.regions, .int .i64 x.d.succs, .slice x.ko x.d.traits.length x.kc] 36))
 have B1 := Lib.hid (new_below w (.cells #[.string x.d.name, .slice x.io x.d.ins.length x.ic, .slice x.oo x.d.outs.length x.oc, .slice x.no x.d.needs.length x.nc, .int .i64 x.d.regions, .int .i64 x.d.succs, .slice x.ko x.d.traits.length x.kc] 36))
 have HR := Lib.hid (hr.below B1.out)
 have HT := Lib.hid (hd.traits.below B1.out)
 have HLT := Lib.hid hf.lt
 have HN := Lib.hid hn
 clear hf hd hr hn
 unfold DEl.val
 go_enter Tryz.func59, Tryz.ntmps59
 go_upto_region 1 with fail
 generalize w.alloc (.cells #[.string x.d.name, .slice x.io x.d.ins.length x.ic, .slice x.oo x.d.outs.length x.oc, .slice x.no x.d.needs.length x.nc, .int .i64 x.d.regions, .int .i64 x.d.succs, .slice x.ko x.d.traits.length x.kc] 36) = W1 at T0 B1 HR HT ⊢
 generalize hD : w.heap.size = D at T0 ⊢
 have HDE := Lib.hid hD
 clear hD
 go_wp2_with fail
 go_loopw [9] (fun iv wr => ∃ m : Nat, m ≤ rs.length ∧ iv = .int .i64 m ∧ Hid (Below W1.heap.size W1 wr ∧ ∀ (j : Nat) (s : RgnD), j < m → rs[j]? = some s → fewB x.d s.n = true)) (fun iv _ => rs.length - (intOf iv).toNat)
 case atStart => exact ⟨0, Nat.zero_le _, rfl, Below.refl _ _, fun j r h => absurd h (Nat.not_lt_zero _)⟩
 case round =>
  obtain ⟨m, hmm, rfl, HL⟩ := hrel
  have T1 := Lib.hid ((HL.out.1.block _ (lt_of_block T0.out)).trans T0.out)
  by_cases hlt : m < rs.length
  rotate_left
  ·have hge : ¬ (m : Int) < (rs.length : Int) := by omega
   have HA := Lib.hid (show rs.all (fun r : RgnD => fewB x.d r.n) = true from List.all_eq_true.2 fun s hs => by
    obtain ⟨j, hj⟩ := List.getElem?_of_mem hs
    exact HL.out.2 j s (by have := (List.getElem?_eq_some_iff.1 hj).1; omega) hj)
   have HX := Lib.hid (show regionsB x.d rs = decide ((rs.length : Int) = x.d.regions) by unfold regionsB; rw [HA.out]; rfl)
   clear hlt hmm
   obtain ⟨c0, c1, c2, c3, c4, c5, c6, cf⟩ := dcells7 T1.out
   by_cases heq : (rs.length : Int) = x.d.regions
   ·have hq : ((rs.length : Int) == x.d.regions) = true := by rw [heq]; exact beq_self_eq_true _
    go_wp2_with fail
    go_ret
    exact ⟨by rw [HX.out, decide_eq_true heq]; rfl, HDE.out ▸ (B1.out.trans (HL.out.1.mono B1.out.size))⟩
   ·have hq : ((rs.length : Int) == x.d.regions) = false := by rw [beq_eq_false_iff_ne]; exact heq
    go_wp2_with fail
    go_ret
    exact ⟨by rw [HX.out, decide_eq_false heq]; rfl, HDE.out ▸ (B1.out.trans (HL.out.1.mono B1.out.size))⟩
  obtain ⟨bk, o, e1, kk⟩ := RowIs.at rgn_len (HR.out.below HL.out.1) (List.getElem?_eq_getElem hlt)
  obtain rfl : ro = _ := e1
  have hjs := List.getElem?_eq_getElem hlt
  generalize rs[m] = r at kk hjs
  have k1 : wr.cell? ⟨bk, o + m, none⟩ = some (.slice r.bo r.n r.c) := by
   have := kk 0 _ rfl
   rwa [Nat.mul_one, Nat.add_zero] at this
  clear kk
  have HJ := Lib.hid hjs
  have HLT2 := Lib.hid hlt
  have hlti : (m : Int) < (rs.length : Int) := by omega
  have hmi : (m : Int) < 9223372036854775807 := by have := HN.out; omega
  have T2 := Lib.hid (heap_alloc_new wr (.cells #[.slice r.bo r.n r.c] 80))
  have B2 := Lib.hid (HL.out.1.alloc HL.out.1.size (.cells #[.slice r.bo r.n r.c] 80))
  have L2 := Lib.hid (new_below wr (.cells #[.slice r.bo r.n r.c] 80))
  clear hlt hmm hjs
  go_upto_region 4 with fail
  generalize wr.alloc (.cells #[.slice r.bo r.n r.c] 80) = W2 at T2 B2 L2 ⊢
  replace T1 := Lib.hid ((L2.out.block _ (lt_of_block T1.out)).trans T1.out)
  generalize wr.heap.size = D2 at T2 ⊢
  clear k1 L2
  have HS := Lib.hid (HT.out.below B2.out)
  obtain ⟨b0, bf⟩ := cells1r T2.out
  obtain ⟨c0, c1, c2, c3, c4, c5, c6, cf⟩ := dcells7 T1.out
  by_cases hone : r.n ≤ 1
  ·have hg : decide ((r.n : Int) > 1) = false := decide_eq_false (by omega)
   have HF := Lib.hid (show fewB x.d r.n = true by unfold fewB; rw [decide_eq_true hone]; rfl)
   clear hone
   go_wp2_with fail
   go_roundw
   case rel => exact ⟨m + 1, HLT2.out, by go_num, B2.out, fun j y hj hy => by
     rcases Nat.lt_or_ge j m with h | h
     ·exact HL.out.2 j y h hy
     ·obtain rfl : j = m := by omega
      rw [HJ.out] at hy
      cases hy
      exact HF.out⟩
   case measure => have := HLT2.out; simp only [intOf]; omega
  have hg : decide ((r.n : Int) > 1) = true := decide_eq_true (by omega)
  have HG := Lib.hid (decide_eq_false hone)
  clear hone
  cases hin : isIn x.d.traits blocksS
  ·have HF := Lib.hid (show regionsB x.d rs = false by
    have e : rs.all (fun r : RgnD => fewB x.d r.n) = false := by
     rw [List.all_eq_false]
     exact ⟨r, List.mem_of_getElem? HJ.out, by show ¬ fewB x.d r.n = true; unfold fewB; rw [HG.out, hin]; decide⟩
    unfold regionsB
    rw [e, Bool.false_and])
   have HI := Lib.hid hin
   clear hin
   go_wp2_with (go_at_call 62; refine (Contains_any x.ko x.d.traits x.kc blocksS (by have := HLT.out; omega) W2 HS.out).mono ?_; rintro e w' ⟨rfl, rfl⟩; rw [HI.out])
   go_ret
   exact ⟨by rw [HF.out]; rfl, HDE.out ▸ (B1.out.trans (B2.out.mono B1.out.size))⟩
  ·have HF := Lib.hid (show fewB x.d r.n = true by unfold fewB; rw [hin, Bool.or_true])
   have HI := Lib.hid hin
   clear hin
   go_wp2_with (go_at_call 62; refine (Contains_any x.ko x.d.traits x.kc blocksS (by have := HLT.out; omega) W2 HS.out).mono ?_; rintro e w' ⟨rfl, rfl⟩; rw [HI.out])
   go_roundw
   case rel => exact ⟨m + 1, HLT2.out, by go_num, B2.out, fun j y hj hy => by
     rcases Nat.lt_or_ge j m with h | h
     ·exact HL.out.2 j y h hy
     ·obtain rfl : j = m := by omega
      rw [HJ.out] at hy
      cases hy
      exact HF.out⟩
   case measure => have := HLT2.out; simp only [intOf]; omega
end Go.Proofs.YtgimdkgjfenafaaGreatDoor
namespace Go.Proofs.YtgimdkgjfenafaaGreatDoor
open Go.RowKit Go.Shelf
attribute [local go_sem] Oper.semAt_some
theorem plainElem_bool_inv {H : Type} {P : Program} {e : TypeId} (he : P.underlying e = some .bool) {v : Value} {z : DataW H × List MemPlace} (h : plainElem P e v = some z) : ∃ a, v = .bool a ∧ z = (.lit (.bool a), []) := by
 unfold plainElem at h
 cases v <;> simp [he] at h
 exact ⟨_, rfl, h.symm⟩
def putS (f : ByteArray → Bool) (x : ByteArray) : ByteArray → Bool := fun y => if y = x then true else f y
theorem putS_same (f : ByteArray → Bool) (x : ByteArray) : putS f x x = true := if_pos rfl
theorem putS_other (f : ByteArray → Bool) {x y : ByteArray} (h : y ≠ x) : putS f x y = f y := if_neg h
theorem skey_ne {x y : ByteArray} (h : y ≠ x) : (Lit.string y.data.toList) ≠ (Lit.string x.data.toList) := fun e => h (by
 injection e with e
 exact ByteArray.ext (Array.toList_inj.1 e))
def MapB (K E : TypeId) (w : World) (b c : Nat) (f : ByteArray → Bool) : Prop :=
 ∃ (n : Nat) (D : DataW Unit), w.ownsMap Tryz.prog K (plainElem Tryz.prog E) b n D ∧ n ≤ c ∧ ∀ x : ByteArray, D.atKey (.string x.data.toList) (.lit (.bool false)) = .lit (.bool (f x))
theorem MapB.made (K E : TypeId) (w : World) : MapB K E (w.alloc (.map #[] 0)) w.heap.size 0 (fun _ => false) :=
 ⟨0, .map [], World.ownsMap_made _ _ _ _, Nat.le_refl _, fun _ => rfl⟩
theorem MapB.kept {K E : TypeId} {w w' : World} {b c : Nat} {f : ByteArray → Bool} {row : Option Nat} (h : MapB K E w b c f) (hg : w.grownBy w' row) (hne : some b ≠ row) : MapB K E w' b c f := by
 obtain ⟨n, D, h1, h2, h3⟩ := h
 exact ⟨n, D, h1.kept hg hne, h2, h3⟩
theorem MapB.below {K E : TypeId} {w w' : World} {b c : Nat} {f : ByteArray → Bool} (h : MapB K E w b c f) (hb : Below w.heap.size w w') : MapB K E w' b c f := by
 obtain ⟨n, D, h1, h2, h3⟩ := h
 exact ⟨n, D, h1.kept (row := none) ⟨hb.os, hb.tape, hb.output, hb.size, fun k hk _ => hb.block k hk⟩ (by simp), h2, h3⟩
theorem MapB.lt {K E : TypeId} {w : World} {b c : Nat} {f : ByteArray → Bool} (h : MapB K E w b c f) : b < w.heap.size := by
 obtain ⟨n, D, h1, _⟩ := h
 exact h1.lt
section
variable {T K E : TypeId} {w : World} {b c : Nat} {f : ByteArray → Bool}
theorem MapB.get (h : MapB K E w b c f) (hT : Tryz.prog.underlying T = some (.map K E)) (hK : Tryz.prog.underlying K = some .string) (hE : Tryz.prog.underlying E = some .bool) (hz : (zeroValue E).run Tryz.prog w = .ok (.bool false) w) {x : ByteArray} (hx : x.size ≤ maxLen) :
  (Instr.lookup T (.map (some b)) (.string x) false).run Tryz.prog w = .ok (.bool (f x)) w := by
 obtain ⟨n, D, h1, h2, h3⟩ := h
 obtain ⟨v, ps, hr, hv⟩ := h1.lookup (Maps.string_keyed hK) hT hz (plainElem_bool hE false) (Go.WideMaps.keyOf_string_mk hK hx)
 rw [h3 x] at hv
 rw [hr]
 obtain ⟨z, rfl, hs⟩ := plainElem_bool_inv hE hv
 simp only [Prod.mk.injEq, DataW.lit.injEq, Lit.bool.injEq] at hs
 rw [hs.1]
theorem MapB.put (h : MapB K E w b c f) (hT : Tryz.prog.underlying T = some (.map K E)) (hK : Tryz.prog.underlying K = some .string) (hE : Tryz.prog.underlying E = some .bool) (hc : c < 4611686018427387904) {x : ByteArray} (hx : x.size ≤ maxLen) :
  ∃ w', (Instr.mapUpdate T (.map (some b)) (.string x) (.bool true)).run Tryz.prog w = .ok () w' ∧ MapB K E w' b (c + 1) (putS f x) ∧ w.grownBy w' (some b) := by
 obtain ⟨n, D, h1, h2, h3⟩ := h
 obtain ⟨w', hr, g1, g2⟩ := h1.update (Maps.string_keyed hK) hT (by unfold maxLen; omega) (Go.WideMaps.keyOf_string_mk hK hx) (d := .lit (.bool true)) (ps := []) (plainElem_bool hE true)
 refine ⟨w', hr, ⟨n + 1, _, g1, by omega, fun y => ?_⟩, g2⟩
 by_cases e : y = x
 ·subst e
  rw [putS_same]
  exact Maps.atKey_put_same h1.isMap (show WideAt.IsKeyLit (.string y.data.toList) from trivial) _ _
 ·rw [putS_other f e]
  exact (Maps.atKey_put_other (skey_ne e) _ _).trans (h3 y)
theorem MapB.wp_put {ops : Array Oper} {rest : List Oper} {o : Oper} {a : Act} {Q : Exit → Act → World → Prop} (hg : o.guard = none) (m x v : Operand) (T : TypeId) (hop : o.op = Op.mapUpdate T m x v) (h : MapB K E w b c f) (hT : Tryz.prog.underlying T = some (.map K E)) (hK : Tryz.prog.underlying K = some .string) (hE : Tryz.prog.underlying E = some .bool) (hc : c < 4611686018427387904)
  {y : ByteArray} (hy : y.size ≤ maxLen) (hm : a.eval m = .map (some b)) (hx : a.eval x = .string y) (hv : a.eval v = .bool true)
  (hK' : ∀ w', MapB K E w' b (c + 1) (putS f y) → w.grownBy w' (some b) → wpList Tryz.prog ops Q rest (a.put o.dst undef) w') : wpList Tryz.prog ops Q (o :: rest) a w := by
 refine wpList_plain hg fun J hJ => ?_
 obtain ⟨w', hr, r1, r2⟩ := h.put hT hK hE hc hy
 unfold Oper.wp
 simp [execOp, hop, hm, hx, hv, hr, Result.andThen]
 exact hJ _ _ (hK' w' r1 r2)
end
end Go.Proofs.YtgimdkgjfenafaaGreatDoor
namespace Go.Proofs.YtgimdkgjfenafaaGreatDoor
open Go.RowKit
def startB (s p : ByteArray) : Bool := decide (p.size ≤ s.size) && ((s.extract 0 p.size).toList == p.toList)
set_option maxHeartbeats 1000000 in
theorem hasPre_any (s p : ByteArray) (w : World) : Calls Tryz.prog 142 #[.string s, .string p] w fun e w' => e = .returned (.bool (startB s p)) ∧ w = w' := by
 by_cases h : p.size ≤ s.size
 ·have hX := Lib.hid (show startB s p = ((s.extract 0 p.size).toList == p.toList) by unfold startB; rw [decide_eq_true h]; rfl)
  have hi : (p.size : Int) ≤ (s.size : Int) := by omega
  go_enter Tryz.func142, Tryz.ntmps142
  go_wp2_with fail
  go_ret
  exact ⟨by rw [hX.out]; rfl, rfl⟩
 ·have hX := Lib.hid (show startB s p = false by unfold startB; rw [decide_eq_false h]; rfl)
  have hi : ¬ (p.size : Int) ≤ (s.size : Int) := by omega
  go_enter Tryz.func142, Tryz.ntmps142
  go_wp2_with fail
  go_ret
  exact ⟨by rw [hX.out]; rfl, rfl⟩
theorem hasPrefix_any (s p : ByteArray) (w : World) : Calls Tryz.prog 97 #[.string s, .string p] w fun e w' => e = .returned (.bool (startB s p)) ∧ w = w' := by
 go_enter Tryz.func97, Tryz.ntmps97
 go_wp2_with fail
 refine (hasPre_any s p w).mono ?_
 rintro e w' ⟨rfl, rfl⟩
 obtain ⟨b, hb⟩ : ∃ b, startB s p = b := ⟨_, rfl⟩
 have HB := Lib.hid hb
 rw [hb]
 clear hb
 go_wp2_with fail
 go_ret
 exact ⟨by rw [HB.out]; rfl, rfl⟩
end Go.Proofs.YtgimdkgjfenafaaGreatDoor
namespace Go.Proofs.YtgimdkgjfenafaaGreatDoor
open Go.RowKit
structure AttD where
 name : ByteArray
 kind : Int
 num : Int
 text : ByteArray
 io : Option Addr
 il : Nat
 ic : Nat
 so : Option Addr
 sl : Nat
 sc : Nat
def AttD.cells (a : AttD) : List Value := [.string a.name, .int .i64 a.kind, .int .i64 a.num, .string a.text, .slice a.io a.il a.ic, .slice a.so a.sl a.sc]
theorem att_len (x : AttD) : x.cells.length = 6 := rfl
def xS : ByteArray := ⟨#[120, 95]⟩
def attR (needs : List NeedD) : List AttD → (ByteArray → Bool) → Int → Bool
 | [], _, m => m == 0
 | a :: l, f, m => match needs.find? (fun y : NeedD => y.name.toList == a.name.toList) with
  | some n => if (f a.name || !(n.kind == a.kind)) = true then false else attR needs l (putS f a.name) (m - 1)
  | none => if (f a.name || !startB a.name xS) = true then false else attR needs l (putS f a.name) m
def attrsB (d : DefD) (l : List AttD) : Bool := attR d.needs l (fun _ => false) d.needs.length
theorem attR_at {needs : List NeedD} {l : List AttD} {m : Nat} {a : AttD} (h : l[m]? = some a) (f : ByteArray → Bool) (k : Int) :
  attR needs (l.drop m) f k = match needs.find? (fun y : NeedD => y.name.toList == a.name.toList) with
  | some n => if (f a.name || !(n.kind == a.kind)) = true then false else attR needs (l.drop (m + 1)) (putS f a.name) (k - 1)
  | none => if (f a.name || !startB a.name xS) = true then false else attR needs (l.drop (m + 1)) (putS f a.name) k := by
 obtain ⟨hl, e⟩ := List.getElem?_eq_some_iff.1 h
 rw [List.drop_eq_getElem_cons hl, e]
 rfl
theorem below_grown {B : Nat} {w w' w'' : World} {b : Nat} (h : Below B w w') (hg : w'.grownBy w'' (some b)) (hb : B ≤ b) (hB : B ≤ w'.heap.size) : Below B w w'' :=
 ⟨hg.os.trans h.os, hg.tape.trans h.tape, hg.output.trans h.output, Nat.le_trans h.size hg.size, fun k hk => (hg.block k (Nat.lt_of_lt_of_le hk hB) (by intro e; cases e; omega)).trans (h.block k hk)⟩
theorem acells6 {w : World} {b : Nat} {T : TypeId} {v0 v1 v2 v3 v4 v5 : Value} (h : w.heap[b]? = some (.cells #[v0, v1, v2, v3, v4, v5] T (0, 0))) :
  w.cell? ⟨b, 0, none⟩ = some v0 ∧ w.cell? ⟨b, 1, none⟩ = some v1 ∧ ∀ j, w.frozen? ⟨b, j, none⟩ = false := by
 refine ⟨?_, ?_, fun j => ?_⟩ <;> simp [World.cell?, World.frozen?, h]
theorem z_boolF (w : World) : (zeroValue 4).run Tryz.prog w = .ok (.bool false) w := by kernel_rfl
set_option maxHeartbeats 8000000 in
set_option maxRecDepth 100000 in
theorem hasAttributes_any (x : DEl) (ro : Option Addr) (rs : List AttD) (rc : Nat) (hn : rs.length ≤ 4611686018427387903) (hz : ∀ a ∈ rs, a.name.size ≤ maxLen) (hk : x.d.needs.length ≤ 1048576) (w : World) (hd : DefOK w x) (hr : RowIs w ro rs.length (rs.flatMap AttD.cells)) :
  Calls Tryz.prog 60 #[x.val, .slice ro rs.length rc] w fun e w' => e = .returned (.bool (attrsB x.d rs)) ∧ Below w.heap.size w w' := by
 have T0 := Lib.hid (heap_alloc_new w (.cells #[.string x.d.name, .slice x.io x.d.ins.length x.ic, .slice x.oo x.d.outs.length x.oc, .slice x.no x.d.needs.length x.nc, .int .i64 x.d.regions, .int .i64 x.d.succs, .slice x.ko x.d.traits.length x.kc] 36))
 have B1 := Lib.hid (new_below w (.cells #[.string x.d.name, .slice x.io x.d.ins.length x.ic, .slice x.oo x.d.outs.length x.oc, .slice x.no x.d.needs.length x.nc, .int .i64 x.d.regions, .int .i64 x.d.succs, .slice x.ko x.d.traits.length x.kc] 36))
 have HR := Lib.hid (hr.below B1.out)
 have HT := Lib.hid (RowIs.below hd.needs B1.out)
 have HN := Lib.hid hn
 have HK := Lib.hid hk
 have HZ := Lib.hid hz
 clear hd hr hn hk hz
 have hmm := @run_makeMap Tryz.prog
 unfold DEl.val
 go_enter Tryz.func60, Tryz.ntmps60
 go_upto_region 1 with fail
 generalize w.alloc (.cells #[.string x.d.name, .slice x.io x.d.ins.length x.ic, .slice x.oo x.d.outs.length x.oc, .slice x.no x.d.needs.length x.nc, .int .i64 x.d.regions, .int .i64 x.d.succs, .slice x.ko x.d.traits.length x.kc] 36) = W1 at T0 B1 HR HT ⊢
 generalize hD : w.heap.size = D at T0 ⊢
 have HDE := Lib.hid hD
 clear hD
 have HM0 := Lib.hid (MapB.made 9 4 W1)
 have BM0 := Lib.hid (new_below W1 (.map #[] 0))
 go_upto_region 2 with fail
 generalize W1.alloc (.map #[] 0) = W2 at HM0 BM0 ⊢
 generalize hb : W1.heap.size = mb at HM0 ⊢
 have HMB := Lib.hid (Nat.le_of_eq hb)
 clear hb
 have T2 := Lib.hid ((BM0.out.block _ (lt_of_block T0.out)).trans T0.out)
 obtain ⟨c0, c1, c2, c3, c4, c5, c6, cf⟩ := dcells7 T2.out
 go_wp2_with fail
 clear c0 c1 c2 c3 c4 c5 c6 cf T2
 go_loopw [6, 17] (fun mv iv wr => ∃ (m : Nat) (k : Int) (f : ByteArray → Bool), m ≤ rs.length ∧ mv = .int .i64 k ∧ iv = .int .i64 m ∧ (-(m : Int) ≤ k ∧ k ≤ (1048576 : Int)) ∧ Hid (Below W1.heap.size W1 wr ∧ MapB 9 4 wr mb m f ∧ attR x.d.needs (rs.drop m) f k = attrsB x.d rs)) (fun _ iv _ => rs.length - (intOf iv).toNat)
 case atStart => exact ⟨0, x.d.needs.length, _, Nat.zero_le _, rfl, rfl, by have := HK.out; omega, BM0.out, HM0.out, rfl⟩
 case round =>
  obtain ⟨m, k, f, hmm2, rfl, rfl, hkb, HL⟩ := hrel
  have T1 := Lib.hid ((HL.out.1.block _ (lt_of_block T0.out)).trans T0.out)
  by_cases hlt : m < rs.length
  rotate_left
  ·have hge : ¬ (m : Int) < (rs.length : Int) := by omega
   have HX := Lib.hid (show attrsB x.d rs = (k == 0) by rw [← HL.out.2.2, List.drop_of_length_le (by omega)]; rfl)
   clear hlt hmm2
   go_wp2_with fail
   go_ret
   exact ⟨by rw [HX.out]; rfl, HDE.out ▸ (B1.out.trans (HL.out.1.mono B1.out.size))⟩
  obtain ⟨bk, o, e1, kk⟩ := RowIs.at att_len (HR.out.below HL.out.1) (List.getElem?_eq_getElem hlt)
  obtain rfl : ro = _ := e1
  have hjs := List.getElem?_eq_getElem hlt
  generalize rs[m] = a at kk hjs
  have k0 := kk 0 _ rfl
  have k1 := kk 1 _ rfl
  have k2 := kk 2 _ rfl
  have k3 := kk 3 _ rfl
  have k4 := kk 4 _ rfl
  have k5 := kk 5 _ rfl
  rw [Nat.add_zero] at k0
  clear kk
  have HSZ := Lib.hid (HZ.out a (List.mem_of_getElem? hjs))
  have HSO := Lib.hid (attR_at (needs := x.d.needs) hjs f k)
  have HLT2 := Lib.hid hlt
  have hlti : (m : Int) < (rs.length : Int) := by omega
  have hmi : (m : Int) < 4611686018427387904 := by have := HN.out; omega
  have T3 := Lib.hid (heap_alloc_new wr (.cells #[.string a.name, .int .i64 a.kind, .int .i64 a.num, .string a.text, .slice a.io a.il a.ic, .slice a.so a.sl a.sc] 133))
  have L3 := Lib.hid (new_below wr (.cells #[.string a.name, .int .i64 a.kind, .int .i64 a.num, .string a.text, .slice a.io a.il a.ic, .slice a.so a.sl a.sc] 133))
  clear hlt hmm2 hjs
  go_upto_region 6 with fail
  generalize wr.alloc (.cells #[.string a.name, .int .i64 a.kind, .int .i64 a.num, .string a.text, .slice a.io a.il a.ic, .slice a.so a.sl a.sc] 133) = W3 at T3 L3 ⊢
  replace T1 := Lib.hid ((L3.out.block _ (lt_of_block T1.out)).trans T1.out)
  have B3 := Lib.hid (HL.out.1.trans (L3.out.mono HL.out.1.size))
  have M3 := Lib.hid (HL.out.2.1.below L3.out)
  generalize wr.heap.size = D3 at T3 ⊢
  clear k0 k1 k2 k3 k4 k5 L3
  have HS := Lib.hid (HT.out.below B3.out)
  obtain ⟨b0, b1, bf⟩ := acells6 T3.out
  obtain ⟨c0, c1, c2, c3, c4, c5, c6, cf⟩ := dcells7 T1.out
  go_wp2_with fail
  refine (searchNeed_any x.no x.d.needs x.nc a.name (by have := HK.out; omega) W3 HS.out).mono ?_
  rintro e w4 ⟨hbs, (⟨n, hfo, rfl⟩ | ⟨hfo, rfl⟩)⟩
  ·skip
   have BS := Lib.hid (B3.out.trans (hbs.mono (Nat.le_trans B3.out.size (Nat.le_refl _))))
   replace T1 := Lib.hid ((hbs.block _ (lt_of_block T1.out)).trans T1.out)
   replace T3 := Lib.hid ((hbs.block _ (lt_of_block T3.out)).trans T3.out)
   have M4 := Lib.hid (M3.out.below hbs)
   have HFO := Lib.hid hfo
   clear hbs hfo b0 b1 bf c0 c1 c2 c3 c4 c5 c6 cf
   have T5 := Lib.hid (heap_alloc_new w4 (.cells #[.string n.name, .int .i64 n.kind] 103))
   have L5 := Lib.hid (new_below w4 (.cells #[.string n.name, .int .i64 n.kind] 103))
   go_upto_region 7 with fail
   generalize w4.alloc (.cells #[.string n.name, .int .i64 n.kind] 103) = W5 at T5 L5 ⊢
   replace T1 := Lib.hid ((L5.out.block _ (lt_of_block T1.out)).trans T1.out)
   replace T3 := Lib.hid ((L5.out.block _ (lt_of_block T3.out)).trans T3.out)
   have B5 := Lib.hid (BS.out.trans (L5.out.mono BS.out.size))
   have M5 := Lib.hid (M4.out.below L5.out)
   generalize w4.heap.size = D5 at T5 ⊢
   clear L5
   obtain ⟨b0, b1, bf⟩ := acells6 T3.out
   obtain ⟨n0, n1, nf⟩ := cells2 T5.out
   have hlk := MapB.get M5.out Tryz.underlying136 Tryz.underlying9 Tryz.underlying4 (z_boolF _) HSZ.out
   have HSE := Lib.hid (show attrsB x.d rs = _ from HL.out.2.2.symm.trans (HSO.out.trans (by rw [HFO.out])))
   cases hs : f a.name
   rotate_left
   ·rw [hs] at hlk
    have HX := Lib.hid (show attrsB x.d rs = false from HSE.out.trans (if_pos (by rw [hs]; rfl)))
    clear hs
    go_wp2_with fail
    go_ret
    exact ⟨by rw [HX.out]; rfl, HDE.out ▸ (B1.out.trans (B5.out.mono B1.out.size))⟩
   rw [hs] at hlk
   cases hke : n.kind == a.kind
   ·have HX := Lib.hid (show attrsB x.d rs = false from HSE.out.trans (if_pos (by rw [hke]; simp)))
    have HKE := Lib.hid hke
    clear hs
    clear hke
    have hke : (n.kind != a.kind) = true := by rw [bne, HKE.out]; rfl
    go_wp2_with fail
    go_ret
    exact ⟨by rw [HX.out]; rfl, HDE.out ▸ (B1.out.trans (B5.out.mono B1.out.size))⟩
   have HY := Lib.hid (show attrsB x.d rs = attR x.d.needs (rs.drop (m + 1)) (putS f a.name) (k - 1) from HSE.out.trans (if_neg (by rw [hs, hke]; simp)))
   have HKE := Lib.hid hke
   have hkn : n.kind = a.kind := by simpa using hke
   clear hs
   have HMC := Lib.hid (show m < 4611686018427387904 by omega)
   go_wp2_with (at_mapUpdate; refine MapB.wp_put rfl _ _ _ 136 rfl M5.out Tryz.underlying136 Tryz.underlying9 Tryz.underlying4 HMC.out HSZ.out rfl rfl rfl ?_; intro w6 hmp hgr; have M6 := Lib.hid hmp; have G6 := Lib.hid hgr; clear hmp hgr)
   go_roundw
   case rel => exact ⟨m + 1, (k - 1), _, HLT2.out, by go_num, by go_num, by omega, below_grown B5.out G6.out HMB.out (Nat.le_trans (Nat.le_refl _) B5.out.size), M6.out, HY.out.symm⟩
   case measure => have := HLT2.out; simp only [intOf]; omega
  ·skip
   have BS := Lib.hid (B3.out.trans (hbs.mono (Nat.le_trans B3.out.size (Nat.le_refl _))))
   replace T1 := Lib.hid ((hbs.block _ (lt_of_block T1.out)).trans T1.out)
   replace T3 := Lib.hid ((hbs.block _ (lt_of_block T3.out)).trans T3.out)
   have M4 := Lib.hid (M3.out.below hbs)
   have HFO := Lib.hid hfo
   clear hbs hfo b0 b1 bf c0 c1 c2 c3 c4 c5 c6 cf
   have T5 := Lib.hid (heap_alloc_new w4 (.cells #[.string ⟨#[]⟩, .int .i64 0] 103))
   have L5 := Lib.hid (new_below w4 (.cells #[.string ⟨#[]⟩, .int .i64 0] 103))
   go_upto_region 7 with fail
   generalize w4.alloc (.cells #[.string ⟨#[]⟩, .int .i64 0] 103) = W5 at T5 L5 ⊢
   replace T1 := Lib.hid ((L5.out.block _ (lt_of_block T1.out)).trans T1.out)
   replace T3 := Lib.hid ((L5.out.block _ (lt_of_block T3.out)).trans T3.out)
   have B5 := Lib.hid (BS.out.trans (L5.out.mono BS.out.size))
   have M5 := Lib.hid (M4.out.below L5.out)
   generalize w4.heap.size = D5 at T5 ⊢
   clear L5
   obtain ⟨b0, b1, bf⟩ := acells6 T3.out
   obtain ⟨n0, n1, nf⟩ := cells2 T5.out
   have hlk := MapB.get M5.out Tryz.underlying136 Tryz.underlying9 Tryz.underlying4 (z_boolF _) HSZ.out
   have HSE := Lib.hid (show attrsB x.d rs = _ from HL.out.2.2.symm.trans (HSO.out.trans (by rw [HFO.out])))
   cases hs : f a.name
   rotate_left
   ·rw [hs] at hlk
    have HX := Lib.hid (show attrsB x.d rs = false from HSE.out.trans (if_pos (by rw [hs]; rfl)))
    clear hs
    go_wp2_with fail
    go_ret
    exact ⟨by rw [HX.out]; rfl, HDE.out ▸ (B1.out.trans (B5.out.mono B1.out.size))⟩
   rw [hs] at hlk
   cases hke : startB a.name xS
   ·have HX := Lib.hid (show attrsB x.d rs = false from HSE.out.trans (if_pos (by rw [hke]; simp)))
    have HKE := Lib.hid hke
    clear hs hke
    go_wp2_with (go_at_call 97; refine (hasPrefix_any _ xS _).mono ?_; rintro e w' ⟨rfl, rfl⟩; rw [HKE.out])
    go_ret
    exact ⟨by rw [HX.out]; rfl, HDE.out ▸ (B1.out.trans (B5.out.mono B1.out.size))⟩
   have HY := Lib.hid (show attrsB x.d rs = attR x.d.needs (rs.drop (m + 1)) (putS f a.name) k from HSE.out.trans (if_neg (by rw [hs, hke]; simp)))
   have HKE := Lib.hid hke
   clear hs hke
   have HMC := Lib.hid (show m < 4611686018427387904 by omega)
   go_wp2_with (first | (go_at_call 97; refine (hasPrefix_any _ xS _).mono ?_; rintro e w' ⟨rfl, rfl⟩; rw [HKE.out]) | (at_mapUpdate; refine MapB.wp_put rfl _ _ _ 136 rfl M5.out Tryz.underlying136 Tryz.underlying9 Tryz.underlying4 HMC.out HSZ.out rfl rfl rfl ?_; intro w6 hmp hgr; have M6 := Lib.hid hmp; have G6 := Lib.hid hgr; clear hmp hgr))
   go_roundw
   case rel => exact ⟨m + 1, k, _, HLT2.out, by go_num, by go_num, by omega, below_grown B5.out G6.out HMB.out (Nat.le_trans (Nat.le_refl _) B5.out.size), M6.out, HY.out.symm⟩
   case measure => have := HLT2.out; simp only [intOf]; omega
end Go.Proofs.YtgimdkgjfenafaaGreatDoor
namespace Go.Proofs.YtgimdkgjfenafaaGreatDoor
open Go.RowKit
structure OpD where
 name : ByteArray
 vo : Option Addr
 vn : Nat
 vc : Nat
 so : Option Addr
 sn : Nat
 sc : Nat
 ao : Option Addr
 al : List AttD
 ac : Nat
 ro : Option Addr
 rs : List RgnD
 rc : Nat
 co : Option Addr
 cn : Nat
 cc : Nat
def OpD.val (o : OpD) : Value := .agg #[.string o.name, .slice o.vo o.vn o.vc, .slice o.so o.sn o.sc, .slice o.ao o.al.length o.ac, .slice o.ro o.rs.length o.rc, .slice o.co o.cn o.cc]
def fitsE (d : DefD) (o : OpD) : Int := if rightD d = true then (if (regionsB d o.rs && ((o.cn : Int) == d.succs) && attrsB d o.al) = true then 0 else 61) else 50
theorem opcells6 {w : World} {b : Nat} {T : TypeId} {v0 v1 v2 v3 v4 v5 : Value} (h : w.heap[b]? = some (.cells #[v0, v1, v2, v3, v4, v5] T (0, 0))) :
  w.cell? ⟨b, 0, none⟩ = some v0 ∧ w.cell? ⟨b, 1, none⟩ = some v1 ∧ w.cell? ⟨b, 2, none⟩ = some v2 ∧ w.cell? ⟨b, 3, none⟩ = some v3 ∧ w.cell? ⟨b, 4, none⟩ = some v4 ∧ w.cell? ⟨b, 5, none⟩ = some v5 ∧ ∀ j, w.frozen? ⟨b, j, none⟩ = false := by
 refine ⟨?_, ?_, ?_, ?_, ?_, ?_, fun j => ?_⟩ <;> simp [World.cell?, World.frozen?, h]
set_option maxHeartbeats 8000000 in
set_option maxRecDepth 100000 in
theorem Fits_any (x : DEl) (hf : DefFit x.d) (hk : x.d.needs.length ≤ 1048576) (o : OpD) (hra : o.rs.length ≤ 9223372036854775806) (hn : o.al.length ≤ 4611686018427387903) (hz : ∀ a ∈ o.al, a.name.size ≤ maxLen) (w : World) (hd : DefOK w x) (hr : RowIs w o.ro o.rs.length (o.rs.flatMap RgnD.cells)) (ha : RowIs w o.ao o.al.length (o.al.flatMap AttD.cells)) (hE : Env w) :
  Calls Tryz.prog 29 #[x.val, o.val] w fun e w' => e = .returned (.int .i64 (fitsE x.d o)) ∧ Below w.heap.size w w' := by
 obtain ⟨W1, hW1⟩ : ∃ W1, W1 = w.alloc (.cells #[.string x.d.name, .slice x.io x.d.ins.length x.ic, .slice x.oo x.d.outs.length x.oc, .slice x.no x.d.needs.length x.nc, .int .i64 x.d.regions, .int .i64 x.d.succs, .slice x.ko x.d.traits.length x.kc] 36) := ⟨_, rfl⟩
 obtain ⟨W2, hW2⟩ : ∃ W2, W2 = W1.alloc (.cells #[.string o.name, .slice o.vo o.vn o.vc, .slice o.so o.sn o.sc, .slice o.ao o.al.length o.ac, .slice o.ro o.rs.length o.rc, .slice o.co o.cn o.cc] 61) := ⟨_, rfl⟩
 have T0 := Lib.hid (show W1.heap[w.heap.size]? = some (.cells #[.string x.d.name, .slice x.io x.d.ins.length x.ic, .slice x.oo x.d.outs.length x.oc, .slice x.no x.d.needs.length x.nc, .int .i64 x.d.regions, .int .i64 x.d.succs, .slice x.ko x.d.traits.length x.kc] 36 (0, 0)) from by rw [hW1]; exact heap_alloc_new _ _)
 have B1 := Lib.hid (show Below w.heap.size w W1 from by rw [hW1]; exact new_below _ _)
 have E1 : W1.heap.size = w.heap.size + 1 := by rw [hW1]; simp
 have O0 := Lib.hid (show W2.heap[w.heap.size + 1]? = some (.cells #[.string o.name, .slice o.vo o.vn o.vc, .slice o.so o.sn o.sc, .slice o.ao o.al.length o.ac, .slice o.ro o.rs.length o.rc, .slice o.co o.cn o.cc] 61 (0, 0)) from by rw [← E1, hW2]; exact heap_alloc_new _ _)
 have B2 := Lib.hid (show Below W1.heap.size W1 W2 from by rw [hW2]; exact new_below _ _)
 have BW := Lib.hid (B1.out.trans (B2.out.mono B1.out.size))
 have HSG := Lib.hid (dRight_any x hf W2 (hd.below BW.out) (hE.below BW.out))
 have HA := Lib.hid (fun (W : World) (hb : Below w.heap.size w W) => hasAttributes_any x o.ao o.al o.ac hn hz hk W (hd.below hb) (ha.below hb))
 have HG := Lib.hid (fun (W : World) (hb : Below w.heap.size w W) => hasRegions_any x hf o.ro o.rs o.rc hra W (hd.below hb) (hr.below hb))
 replace T0 := Lib.hid ((B2.out.block _ (lt_of_block T0.out)).trans T0.out)
 clear hf hd hE hr ha hra hn hz hk E1
 unfold DEl.val at HSG HA HG ⊢
 unfold OpD.val
 go_enter Tryz.func29, Tryz.ntmps29
 go_upto_region 1 with fail
 rw [← hW1, ← hW2]
 clear hW1 hW2
 generalize hD : w.heap.size = D at T0 O0 ⊢
 have HDE := Lib.hid hD
 clear hD
 obtain ⟨c0, c1, c2, c3, c4, c5, c6, cf⟩ := dcells7 T0.out
 go_wp2_with fail
 refine HSG.out.mono ?_
 rintro e w2 ⟨rfl, hb⟩
 replace T0 := Lib.hid ((hb.block _ (lt_of_block T0.out)).trans T0.out)
 replace O0 := Lib.hid ((hb.block _ (lt_of_block O0.out)).trans O0.out)
 have B3 := Lib.hid (BW.out.trans (hb.mono BW.out.size))
 clear hb HSG c0 c1 c2 c3 c4 c5 c6 cf
 cases hr : rightD x.d
 ·have HX := Lib.hid (show fitsE x.d o = 50 by unfold fitsE; rw [hr]; rfl)
  clear hr
  go_wp2_with fail
  go_ret
  exact ⟨by rw [HX.out]; rfl, B3.out⟩
 have HX := Lib.hid (show fitsE x.d o = if (regionsB x.d o.rs && ((o.cn : Int) == x.d.succs) && attrsB x.d o.al) = true then 0 else 61 by unfold fitsE; rw [hr]; rfl)
 clear hr
 obtain ⟨c0, c1, c2, c3, c4, c5, c6, cf⟩ := dcells7 T0.out
 obtain ⟨p0, p1, p2, p3, p4, p5, pf⟩ := opcells6 O0.out
 go_wp2_with fail
 refine (HG.out w2 B3.out).mono ?_
 rintro e w3 ⟨rfl, hb⟩
 replace T0 := Lib.hid ((hb.block _ (lt_of_block T0.out)).trans T0.out)
 replace O0 := Lib.hid ((hb.block _ (lt_of_block O0.out)).trans O0.out)
 have B4 := Lib.hid (B3.out.trans (hb.mono B3.out.size))
 clear hb HG c0 c1 c2 c3 c4 c5 c6 cf p0 p1 p2 p3 p4 p5 pf
 cases hrb : regionsB x.d o.rs
 ·have HY := Lib.hid (show fitsE x.d o = 61 by rw [HX.out, hrb]; rfl)
  clear hrb
  go_wp2_with fail
  go_ret
  exact ⟨by rw [HY.out]; rfl, B4.out⟩
 have HX2 := Lib.hid (show fitsE x.d o = if (((o.cn : Int) == x.d.succs) && attrsB x.d o.al) = true then 0 else 61 by rw [HX.out, hrb]; rfl)
 clear hrb
 obtain ⟨c0, c1, c2, c3, c4, c5, c6, cf⟩ := dcells7 T0.out
 obtain ⟨p0, p1, p2, p3, p4, p5, pf⟩ := opcells6 O0.out
 cases hq : (o.cn : Int) == x.d.succs
 ·have HY := Lib.hid (show fitsE x.d o = 61 by rw [HX2.out, hq]; rfl)
  have hq2 : ((o.cn : Int) != x.d.succs) = true := by rw [bne, hq]; rfl
  clear hq
  go_wp2_with fail
  go_ret
  exact ⟨by rw [HY.out]; rfl, B4.out⟩
 have HX3 := Lib.hid (show fitsE x.d o = if attrsB x.d o.al = true then 0 else 61 by rw [HX2.out, hq]; rfl)
 have hq2 : ((o.cn : Int) != x.d.succs) = false := by rw [bne, hq]; rfl
 clear hq
 go_wp2_with fail
 refine (HA.out w3 B4.out).mono ?_
 rintro e w4 ⟨rfl, hb⟩
 have B5 := Lib.hid (B4.out.trans (hb.mono B4.out.size))
 clear hb HA c0 c1 c2 c3 c4 c5 c6 cf p0 p1 p2 p3 p4 p5 pf
 cases hab : attrsB x.d o.al
 ·have HY := Lib.hid (show fitsE x.d o = 61 by rw [HX3.out, hab]; rfl)
  clear hab
  go_wp2_with fail
  go_ret
  exact ⟨by rw [HY.out]; rfl, B5.out⟩
 ·have HY := Lib.hid (show fitsE x.d o = 0 by rw [HX3.out, hab]; rfl)
  clear hab
  go_wp2_with fail
  go_ret
  exact ⟨by rw [HY.out]; rfl, B5.out⟩
end Go.Proofs.YtgimdkgjfenafaaGreatDoor
