/-
  Texts of mine in one file: AtLM, AtLN, AtLO, AtLP, AtLQ, AtMA.
-/
import Derived.Test.YtiofnjnaleglgaaGreatDoorG31
import Derived.Test.YtiofnjnaleglgaaGreatDoorG10
import Derived.Sort.CutIn
import Derived.Stop.RegionWithIn
/-
  The attributes of two lists, one after the other: the iterator's contract.
-/
namespace Go.Proofs.YtiofnjnaleglgaaGreatDoor
open Go.RowKit Go.Shelf Go.BigFrame
attribute [local go_sem] Oper.semAt_some

/-- An attribute with the places of its lists. -/
structure El where
  a : At
  ai : Option Addr
  ci : Nat
  ao : Option Addr
  ct : Nat
instance : Inhabited El := ⟨⟨At.zero, none, 0, none, 0⟩⟩
def El.val (e : El) : Value := .agg #[.string e.a.name, .int .i64 e.a.kind, .int .i64 e.a.num, .string e.a.text, .slice e.ai e.a.ints.length e.ci, .slice e.ao e.a.texts.length e.ct]
def cmpE (x y : El) : Int := Lib.compareBytes x.a.name.data.toList y.a.name.data.toList
/-- Two lists made one. -/
def mergeE : List El → List El → List El
  | [], m => m
  | x :: l, [] => x :: l
  | x :: l, y :: m => if cmpE x y < 0 then x :: mergeE l (y :: m) else if 0 < cmpE x y then y :: mergeE (x :: l) m else y :: mergeE l m
termination_by l m => l.length + m.length
/-- A slice holds these attributes. -/
def ElsAt (w : World) (so : Option Addr) (l : List El) : Prop := l = [] ∨ ∃ bk o, so = some ⟨bk, o, none⟩ ∧ ∀ j (h : j < l.length), ElAt w bk (o + j * 6) l[j].a l[j].ai l[j].ci l[j].ao l[j].ct
/-- Every block of cells below B lies as it lay. -/
def KeepB (B : Nat) (w w' : World) : Prop := ∀ (k : Nat) (cs : Array Value) (t : TypeId) (fr : Nat × Nat), k < B → w.heap[k]? = some (.cells cs t fr) → w'.heap[k]? = some (.cells cs t fr)
theorem KeepB.refl (B : Nat) (w : World) : KeepB B w w := fun _ _ _ _ _ h => h
theorem KeepB.trans {B : Nat} {a b c : World} (h : KeepB B a b) (k : KeepB B b c) : KeepB B a c := fun i cs t fr hi hh => k i cs t fr hi (h i cs t fr hi hh)
theorem KeepB.grown {B : Nat} {w w' : World} (hg : w.grownBy w' none) : KeepB B w w' := fun k _ _ _ _ hk => (hg.block k (lt_of_block hk) (fun e => by cases e)).trans hk
theorem KeepB.cell {B : Nat} {w w' : World} (h : KeepB B w w') {x : Addr} {v : Value} (hx : x.block < B) (hc : w.cell? x = some v) : w'.cell? x = some v := by
  have hc0 := hc
  unfold World.cell? at hc
  cases ho : w.heap[x.block]? with
  | none => rw [ho] at hc; cases hc
  | some ob =>
    cases ob with
    | cells cs t fr => exact cell_block hc0 ((h _ _ _ _ hx ho).trans ho.symm)
    | _ => rw [ho] at hc; cases hc
theorem mergeE_lt {x y : El} {l m : List El} (h : cmpE x y < 0) : mergeE (x :: l) (y :: m) = x :: mergeE l (y :: m) := by rw [mergeE, if_pos h]
theorem mergeE_gt {x y : El} {l m : List El} (h : 0 < cmpE x y) : mergeE (x :: l) (y :: m) = y :: mergeE (x :: l) m := by rw [mergeE, if_neg (by omega), if_pos h]
theorem mergeE_eq {x y : El} {l m : List El} (h : cmpE x y = 0) : mergeE (x :: l) (y :: m) = y :: mergeE l m := by rw [mergeE, if_neg (by omega), if_neg (by omega)]
theorem mergeE_nil (m : List El) : mergeE [] m = m := by rw [mergeE]
theorem mergeE_nil_r (l : List El) : mergeE l [] = l := by cases l <;> rw [mergeE]

theorem KeepB.ints {B : Nat} {w w' : World} {ao : Option Addr} {zs : List Int} (h : KeepB B w w') (hB : ∀ a, ao = some a → a.block < B) (hz : IntsAt w ao zs) : IntsAt w' ao zs := by
  rcases hz with h0 | ⟨a, rfl, hc⟩
  · exact .inl h0
  · exact .inr ⟨a, rfl, fun j hj => h.cell (by rw [add_block]; exact hB a rfl) (hc j hj)⟩

theorem grown6 {w W : World} {D : Nat} {u0 u1 u2 u3 u4 u5 : Value} (hg : w.grownBy W none) (h : w.heap.size ≤ D) :
    w.grownBy ((((((W.setCell ⟨D, 0, none⟩ u0).setCell ⟨D, 1, none⟩ u1).setCell ⟨D, 2, none⟩ u2).setCell ⟨D, 3, none⟩ u3).setCell ⟨D, 4, none⟩ u4).setCell ⟨D, 5, none⟩ u5) none :=
  grown_setCell (grown_setCell (grown_setCell (grown_setCell (grown_setCell (grown_setCell hg h) h) h) h) h) h

set_option maxRecDepth 100000 in
set_option maxHeartbeats 4000000 in
theorem united1_in (n : Nat) (hn : 1 ≤ n) (q B S S' : Nat) (hS : S < B) (hS' : S' < B) (so so' : Option Addr) (L M : List El) (c c' : Nat) (hL : L.length ≤ 1000) (hM : M.length ≤ 1000) (J Jx : List El → World → Prop)
    (hA : ∀ s X Y, J s X → X.grownBy Y none → J s Y)
    (hY : ∀ pre (x : El) W, J pre W → pre.length < L.length + M.length → YieldAt Fence.wide (n - 1) Tryz.prog q #[x.val] W fun e W' =>
      (e = .returned (.bool true) ∧ J (pre ++ [x]) W' ∧ KeepB B W W') ∨ (e = .returned (.bool false) ∧ Jx (pre ++ [x]) W'))
    (W : World) (hb : W.heap[S]? = some (.cells #[.slice so L.length c] 22 (0, 0))) (hb' : W.heap[S']? = some (.cells #[.slice so' M.length c'] 22 (0, 0)))
    (hl : ∀ X, KeepB B W X → ElsAt X so L) (hm : ∀ X, KeepB B W X → ElsAt X so' M) (h0 : J [] W) :
    CallsIn Fence.wide n Tryz.prog 73 #[.func (.yield q) #[] #[], .pointer (some ⟨S, 0, none⟩), .pointer (some ⟨S', 0, none⟩)] W fun e W' => (∃ v, e = .returned v) ∧
      ((∃ ys, ys = mergeE L M ∧ J ys W') ∨ (∃ pre, pre <+: mergeE L M ∧ Jx pre W')) := by
  have HB := Lib.hid hb
  have HB' := Lib.hid hb'
  have HLL := Lib.hid hl
  have HMM := Lib.hid hm
  have HA := Lib.hid hA
  have HY := Lib.hid hY
  have H0 := Lib.hid h0
  clear hb hb' hl hm hA hY h0
  refine callsIn_of_wp Tryz.func73 rfl trivial ?_ rfl
  simp only [Tryz.ntmps73, List.size_toArray, List.length_cons, List.length_nil, Nat.reduceAdd, Nat.reduceSub, Array.replicate_succ, Array.replicate_zero, List.push_toArray, List.append_toArray, List.nil_append, List.cons_append]
  gi_wp2
  gi_loopw [4, 5] (fun i j wr => ∃ (x y : Nat) (pre : List El), x ≤ L.length ∧ y ≤ M.length ∧ i = .int .i64 x ∧ j = .int .i64 y ∧ Hid (pre ++ mergeE (L.drop x) (M.drop y) = mergeE L M ∧ pre.length ≤ x + y ∧ J pre wr ∧ KeepB B W wr)) (fun i j _ => L.length + M.length - (intOf i).toNat - (intOf j).toNat)
  case atStart => exact ⟨0, 0, [], Nat.zero_le _, Nat.zero_le _, rfl, rfl, rfl, Nat.le_refl _, H0.out, KeepB.refl _ _⟩
  case round =>
    obtain ⟨x, y, pre, hx, hy, rfl, rfl, hh⟩ := hrel
    have c0 := cell_of_row wr S 0 _ _ _ (hh.out.2.2.2 _ _ _ _ hS HB.out)
    have c1 := cell_of_row wr S' 0 _ _ _ (hh.out.2.2.2 _ _ _ _ hS' HB'.out)
    by_cases hxl : x < L.length
    · by_cases hyl : y < M.length
      · rcases HLL.out wr hh.out.2.2.2 with h | ⟨bk, o, rfl, hc⟩
        · rw [h] at hxl; exact absurd hxl (Nat.not_lt_zero _)
        rcases HMM.out wr hh.out.2.2.2 with h | ⟨bk', o', rfl, hc'⟩
        · rw [h] at hyl; exact absurd hyl (Nat.not_lt_zero _)
        have hel := hc x hxl
        have hel' := hc' y hyl
        have HQ := Lib.hid (show pre ++ mergeE (L[x] :: L.drop (x + 1)) (M[y] :: M.drop (y + 1)) = mergeE L M by
          rw [← hh.out.1, ← List.drop_eq_getElem_cons hxl, ← List.drop_eq_getElem_cons hyl])
        have HDL := Lib.hid (List.drop_eq_getElem_cons hxl)
        have HDM := Lib.hid (List.drop_eq_getElem_cons hyl)
        generalize L[x] = p at hel HQ HDL
        generalize M[y] = r at hel' HQ HDM
        obtain ⟨pa, pai, pci, pao, pct⟩ := p
        obtain ⟨ra, rai, rci, rao, rct⟩ := r
        dsimp only at hel hel'
        have HEL := Lib.hid hel
        have HER := Lib.hid hel'
        clear hel hel' hc hc'
        have n0 := HEL.out.c0
        have n1 := HER.out.c0
        have HP := Lib.hid (show cmpE ⟨pa, pai, pci, pao, pct⟩ ⟨ra, rai, rci, rao, rct⟩ = Lib.compareBytes pa.name.data.toList ra.name.data.toList from rfl)
        gi_upto_region 6 with fail
        refine wpIn_wide.2 ?_
        refine wp_region_still_tail 10 (by kernel_rfl) (by kernel_rfl) ?_
        simp only [List.take_succ_cons, List.take_zero, List.drop_succ_cons, List.drop_zero]
        refine still_of_quiet _ _ ?_
        repeat (go_big_quiet_step (fail))
        refine wpQuiet_nil ?_
        change wpList _ _ _ _ _ wr.drew
        go_wp2_with fail
        refine (Tryz.strings_Compare _ _ _).mono ?_
        rintro e w4 ⟨rfl, rfl⟩
        go_wp2_with fail
        have hD := (Below.refl wr.heap.size wr).drew
        have d0 := (hD.cell (block_lt_of_cell c0)).trans c0
        have d1 := (hD.cell (block_lt_of_cell c1)).trans c1
        have X0 := Lib.hid (show (wr.alloc (.cells #[.string ⟨#[]⟩, .int .i64 0, .int .i64 0, .string ⟨#[]⟩, .slice none 0 0, .slice none 0 0] 29)).drew.heap[wr.heap.size]? = _ from heap_alloc_new wr (.cells #[.string ⟨#[]⟩, .int .i64 0, .int .i64 0, .string ⟨#[]⟩, .slice none 0 0, .slice none 0 0] 29))
        have G1 := Lib.hid (show wr.grownBy (wr.alloc (.cells #[.string ⟨#[]⟩, .int .i64 0, .int .i64 0, .string ⟨#[]⟩, .slice none 0 0, .slice none 0 0] 29)).drew none from ⟨rfl, rfl, rfl, by simp, fun k hk _ => Below.heap_alloc wr _ k hk⟩)
        have B1 := Lib.hid ((alloc_below wr (.cells #[.string ⟨#[]⟩, .int .i64 0, .int .i64 0, .string ⟨#[]⟩, .slice none 0 0, .slice none 0 0] 29)).drew)
        have f0 := (B1.out.cell (block_lt_of_cell c0)).trans c0
        have f1 := (B1.out.cell (block_lt_of_cell c1)).trans c1
        have k0 := Lib.hid c0
        have k1 := Lib.hid c1
        clear n0 n1 c0 c1 hD
        gi_upto_region 8 with fail
        clear d0 d1
        have d0 := f0
        have d1 := f1
        clear f0 f1
        generalize (wr.alloc (.cells #[.string ⟨#[]⟩, .int .i64 0, .int .i64 0, .string ⟨#[]⟩, .slice none 0 0, .slice none 0 0] 29)).drew = W1 at X0 G1 B1 d0 d1 ⊢
        have HELP := Lib.hid (HEL.out.below B1.out)
        have HERP := Lib.hid (HER.out.below B1.out)
        rw [← HP.out]
        generalize hcm : cmpE ⟨pa, pai, pci, pao, pct⟩ ⟨ra, rai, rci, rao, rct⟩ = cm at HP ⊢
        have HCM := Lib.hid hcm
        clear hcm HP
        have HBW := Lib.hid (fun X (hX : Below wr.heap.size wr X) => HER.out.below hX)
        clear HEL HER
        generalize hD : wr.heap.size = D at X0 B1 HBW ⊢
        have HD := Lib.hid hD
        clear hD
        obtain ⟨z0, z1, z2, z3, z4, z5, zf⟩ := cells6 X0.out
        rcases Int.lt_trichotomy cm 0 with hlt | heq | hgt
        · have HQ2 := Lib.hid (show pre ++ (⟨pa, pai, pci, pao, pct⟩ :: mergeE (L.drop (x + 1)) (M.drop y)) = mergeE L M by
            rw [← HQ.out, HDM.out, mergeE_lt (by rw [HCM.out]; exact hlt)])
          have h1 : cm ≤ 0 := by omega
          have h2 : ¬ 0 ≤ cm := by omega
          have e0 := HELP.out.c0
          have e1 := HELP.out.c1
          have e2 := HELP.out.c2
          have e3 := HELP.out.c3
          have e4 := HELP.out.c4
          have e5 := HELP.out.c5
          gi_upto_region 14 with fail
          have G2 := Lib.hid (grown6 (u0 := .string pa.name) (u1 := .int .i64 pa.kind) (u2 := .int .i64 pa.num) (u3 := .string pa.text) (u4 := .slice pai pa.ints.length pci) (u5 := .slice pao pa.texts.length pct) G1.out (by rw [HD.out]; exact Nat.le_refl _))
          have X2 := Lib.hid (set6_block (u0 := .string pa.name) (u1 := .int .i64 pa.kind) (u2 := .int .i64 pa.num) (u3 := .string pa.text) (u4 := .slice pai pa.ints.length pci) (u5 := .slice pao pa.texts.length pct) X0.out)
          generalize (((((((W1).setCell ⟨D, 0, none⟩ (.string pa.name)).setCell ⟨D, 1, none⟩ (.int .i64 pa.kind)).setCell ⟨D, 2, none⟩ (.int .i64 pa.num)).setCell ⟨D, 3, none⟩ (.string pa.text)).setCell ⟨D, 4, none⟩ (.slice pai pa.ints.length pci)).setCell ⟨D, 5, none⟩ (.slice pao pa.texts.length pct)) = W2 at G2 X2 ⊢
          clear z0 z1 z2 z3 z4 z5 zf e0 e1 e2 e3 e4 e5 d0 d1 X0 G1 B1
          obtain ⟨z0, z1, z2, z3, z4, z5, zf⟩ := cells6 X2.out
          have K2 := Lib.hid (hh.out.2.2.2.trans (KeepB.grown (B := B) G2.out))
          have HLEN := Lib.hid hh.out.2.1
          obtain ⟨fn, tmps, assign, body, hyd, hR⟩ := HY.out pre ⟨pa, pai, pci, pao, pct⟩ W2 (HA.out _ _ _ hh.out.2.2.1 G2.out) (by have := hh.out.2.1; omega)
          have HR := Lib.hid hR
          clear hR hh
          dsimp only [El.val] at hyd
          gi_wp2_with fail
          refine HR.out.mono ?_
          rintro e W3 (⟨rfl, hJ3, hk3⟩ | ⟨rfl, hJx3⟩)
          · have HJ3 := Lib.hid hJ3
            have K3 := Lib.hid (K2.out.trans hk3)
            clear hJ3 hk3
            gi_wp2_with fail
            go_roundw
            case rel => exact ⟨x + 1, y, pre ++ [⟨pa, pai, pci, pao, pct⟩], by omega, by omega, rfl, rfl, by rw [List.append_assoc]; exact HQ2.out, by have := HLEN.out; rw [List.length_append, List.length_singleton]; omega, HJ3.out, K3.out⟩
            case measure => simp only [intOf]; omega
          · have HJ3 := Lib.hid hJx3
            clear hJx3
            gi_wp2_with fail
            refine bodyPost_ret (results_none rfl _ _ _) rfl ?_
            exact ⟨⟨_, rfl⟩, .inr ⟨_, ⟨_, by rw [List.append_assoc]; exact HQ2.out⟩, HJ3.out⟩⟩
        · have HQ2 := Lib.hid (show pre ++ (⟨ra, rai, rci, rao, rct⟩ :: mergeE (L.drop (x + 1)) (M.drop (y + 1))) = mergeE L M by
            rw [← HQ.out, mergeE_eq (by rw [HCM.out]; exact heq)])
          have h1 : cm ≤ 0 := by omega
          have h2 : 0 ≤ cm := by omega
          clear heq
          have e0 := HELP.out.c0
          have e1 := HELP.out.c1
          have e2 := HELP.out.c2
          have e3 := HELP.out.c3
          have e4 := HELP.out.c4
          have e5 := HELP.out.c5
          gi_upto_region 11 with fail
          have G1' := Lib.hid (grown6 (u0 := .string pa.name) (u1 := .int .i64 pa.kind) (u2 := .int .i64 pa.num) (u3 := .string pa.text) (u4 := .slice pai pa.ints.length pci) (u5 := .slice pao pa.texts.length pct) G1.out (D := D) (by rw [HD.out]; exact Nat.le_refl _))
          have X0' := Lib.hid (set6_block (u0 := .string pa.name) (u1 := .int .i64 pa.kind) (u2 := .int .i64 pa.num) (u3 := .string pa.text) (u4 := .slice pai pa.ints.length pci) (u5 := .slice pao pa.texts.length pct) X0.out)
          have B1' := Lib.hid (below_set6 (b := D) (u0 := .string pa.name) (u1 := .int .i64 pa.kind) (u2 := .int .i64 pa.num) (u3 := .string pa.text) (u4 := .slice pai pa.ints.length pci) (u5 := .slice pao pa.texts.length pct) B1.out (Nat.le_refl _))
          have g0 := (B1'.out.cell (by rw [← HD.out]; exact block_lt_of_cell k0.out)).trans k0.out
          have g1 := (B1'.out.cell (by rw [← HD.out]; exact block_lt_of_cell k1.out)).trans k1.out
          have HERQ := Lib.hid (HBW.out _ B1'.out)
          clear z0 z1 z2 z3 z4 z5 zf e0 e1 e2 e3 e4 e5 d0 d1 X0 G1 B1
          generalize ((((((W1.setCell ⟨D, 0, none⟩ (.string pa.name)).setCell ⟨D, 1, none⟩ (.int .i64 pa.kind)).setCell ⟨D, 2, none⟩ (.int .i64 pa.num)).setCell ⟨D, 3, none⟩ (.string pa.text)).setCell ⟨D, 4, none⟩ (.slice pai pa.ints.length pci)).setCell ⟨D, 5, none⟩ (.slice pao pa.texts.length pct)) = W1b at G1' X0' B1' HERQ g0 g1 ⊢
          have G1 := G1'
          have X0 := X0'
          have B1 := B1'
          have d0 := g0
          have d1 := g1
          clear G1' X0' B1' g0 g1
          obtain ⟨z0, z1, z2, z3, z4, z5, zf⟩ := cells6 X0.out
          have e0 := HERQ.out.c0
          have e1 := HERQ.out.c1
          have e2 := HERQ.out.c2
          have e3 := HERQ.out.c3
          have e4 := HERQ.out.c4
          have e5 := HERQ.out.c5
          gi_upto_region 14 with fail
          have G2 := Lib.hid (grown6 (u0 := .string ra.name) (u1 := .int .i64 ra.kind) (u2 := .int .i64 ra.num) (u3 := .string ra.text) (u4 := .slice rai ra.ints.length rci) (u5 := .slice rao ra.texts.length rct) G1.out (by rw [HD.out]; exact Nat.le_refl _))
          have X2 := Lib.hid (set6_block (u0 := .string ra.name) (u1 := .int .i64 ra.kind) (u2 := .int .i64 ra.num) (u3 := .string ra.text) (u4 := .slice rai ra.ints.length rci) (u5 := .slice rao ra.texts.length rct) X0.out)
          generalize ((((((W1b.setCell ⟨D, 0, none⟩ (.string ra.name)).setCell ⟨D, 1, none⟩ (.int .i64 ra.kind)).setCell ⟨D, 2, none⟩ (.int .i64 ra.num)).setCell ⟨D, 3, none⟩ (.string ra.text)).setCell ⟨D, 4, none⟩ (.slice rai ra.ints.length rci)).setCell ⟨D, 5, none⟩ (.slice rao ra.texts.length rct)) = W2 at G2 X2 ⊢
          clear z0 z1 z2 z3 z4 z5 zf e0 e1 e2 e3 e4 e5 d0 d1 X0 G1 B1
          obtain ⟨z0, z1, z2, z3, z4, z5, zf⟩ := cells6 X2.out
          have K2 := Lib.hid (hh.out.2.2.2.trans (KeepB.grown (B := B) G2.out))
          have HLEN := Lib.hid hh.out.2.1
          obtain ⟨fn, tmps, assign, body, hyd, hR⟩ := HY.out pre ⟨ra, rai, rci, rao, rct⟩ W2 (HA.out _ _ _ hh.out.2.2.1 G2.out) (by have := hh.out.2.1; omega)
          have HR := Lib.hid hR
          clear hR hh
          dsimp only [El.val] at hyd
          gi_wp2_with fail
          refine HR.out.mono ?_
          rintro e W3 (⟨rfl, hJ3, hk3⟩ | ⟨rfl, hJx3⟩)
          · have HJ3 := Lib.hid hJ3
            have K3 := Lib.hid (K2.out.trans hk3)
            clear hJ3 hk3
            gi_wp2_with fail
            go_roundw
            case rel => exact ⟨x + 1, y + 1, pre ++ [⟨ra, rai, rci, rao, rct⟩], by omega, by omega, rfl, rfl, by rw [List.append_assoc]; exact HQ2.out, by have := HLEN.out; rw [List.length_append, List.length_singleton]; omega, HJ3.out, K3.out⟩
            case measure => simp only [intOf]; omega
          · have HJ3 := Lib.hid hJx3
            clear hJx3
            gi_wp2_with fail
            refine bodyPost_ret (results_none rfl _ _ _) rfl ?_
            exact ⟨⟨_, rfl⟩, .inr ⟨_, ⟨_, by rw [List.append_assoc]; exact HQ2.out⟩, HJ3.out⟩⟩
        · have HQ2 := Lib.hid (show pre ++ (⟨ra, rai, rci, rao, rct⟩ :: mergeE (L.drop x) (M.drop (y + 1))) = mergeE L M by
            rw [← HQ.out, HDL.out, mergeE_gt (by rw [HCM.out]; exact hgt)])
          have h1 : ¬ cm ≤ 0 := by omega
          have h2 : 0 ≤ cm := by omega
          have e0 := HERP.out.c0
          have e1 := HERP.out.c1
          have e2 := HERP.out.c2
          have e3 := HERP.out.c3
          have e4 := HERP.out.c4
          have e5 := HERP.out.c5
          gi_upto_region 14 with fail
          have G2 := Lib.hid (grown6 (u0 := .string ra.name) (u1 := .int .i64 ra.kind) (u2 := .int .i64 ra.num) (u3 := .string ra.text) (u4 := .slice rai ra.ints.length rci) (u5 := .slice rao ra.texts.length rct) G1.out (by rw [HD.out]; exact Nat.le_refl _))
          have X2 := Lib.hid (set6_block (u0 := .string ra.name) (u1 := .int .i64 ra.kind) (u2 := .int .i64 ra.num) (u3 := .string ra.text) (u4 := .slice rai ra.ints.length rci) (u5 := .slice rao ra.texts.length rct) X0.out)
          generalize (((((((W1).setCell ⟨D, 0, none⟩ (.string ra.name)).setCell ⟨D, 1, none⟩ (.int .i64 ra.kind)).setCell ⟨D, 2, none⟩ (.int .i64 ra.num)).setCell ⟨D, 3, none⟩ (.string ra.text)).setCell ⟨D, 4, none⟩ (.slice rai ra.ints.length rci)).setCell ⟨D, 5, none⟩ (.slice rao ra.texts.length rct)) = W2 at G2 X2 ⊢
          clear z0 z1 z2 z3 z4 z5 zf e0 e1 e2 e3 e4 e5 d0 d1 X0 G1 B1
          obtain ⟨z0, z1, z2, z3, z4, z5, zf⟩ := cells6 X2.out
          have K2 := Lib.hid (hh.out.2.2.2.trans (KeepB.grown (B := B) G2.out))
          have HLEN := Lib.hid hh.out.2.1
          obtain ⟨fn, tmps, assign, body, hyd, hR⟩ := HY.out pre ⟨ra, rai, rci, rao, rct⟩ W2 (HA.out _ _ _ hh.out.2.2.1 G2.out) (by have := hh.out.2.1; omega)
          have HR := Lib.hid hR
          clear hR hh
          dsimp only [El.val] at hyd
          gi_wp2_with fail
          refine HR.out.mono ?_
          rintro e W3 (⟨rfl, hJ3, hk3⟩ | ⟨rfl, hJx3⟩)
          · have HJ3 := Lib.hid hJ3
            have K3 := Lib.hid (K2.out.trans hk3)
            clear hJ3 hk3
            gi_wp2_with fail
            go_roundw
            case rel => exact ⟨x, y + 1, pre ++ [⟨ra, rai, rci, rao, rct⟩], by omega, by omega, rfl, rfl, by rw [List.append_assoc]; exact HQ2.out, by have := HLEN.out; rw [List.length_append, List.length_singleton]; omega, HJ3.out, K3.out⟩
            case measure => simp only [intOf]; omega
          · have HJ3 := Lib.hid hJx3
            clear hJx3
            gi_wp2_with fail
            refine bodyPost_ret (results_none rfl _ _ _) rfl ?_
            exact ⟨⟨_, rfl⟩, .inr ⟨_, ⟨_, by rw [List.append_assoc]; exact HQ2.out⟩, HJ3.out⟩⟩
      · obtain rfl : y = M.length := by omega
        rcases HLL.out wr hh.out.2.2.2 with h | ⟨bk, o, rfl, hc⟩
        · rw [h] at hxl; exact absurd hxl (Nat.not_lt_zero _)
        have hel := hc x hxl
        have HQ := Lib.hid (show pre ++ (L[x] :: mergeE (L.drop (x + 1)) (M.drop M.length)) = mergeE L M by
          rw [← hh.out.1, List.drop_length, mergeE_nil_r, mergeE_nil_r, ← List.drop_eq_getElem_cons hxl])
        generalize L[x] = b at hel HQ
        obtain ⟨a, ai, ci, ao, ct⟩ := b
        have HEL := Lib.hid hel
        clear hel hc
        have X0 := Lib.hid (heap_alloc_new wr (.cells #[.string ⟨#[]⟩, .int .i64 0, .int .i64 0, .string ⟨#[]⟩, .slice none 0 0, .slice none 0 0] 29))
        have G1 := Lib.hid (World.grownBy_alloc wr (.cells #[.string ⟨#[]⟩, .int .i64 0, .int .i64 0, .string ⟨#[]⟩, .slice none 0 0, .slice none 0 0] 29) none)
        have HEL1 := Lib.hid (HEL.out.below (alloc_below wr (.cells #[.string ⟨#[]⟩, .int .i64 0, .int .i64 0, .string ⟨#[]⟩, .slice none 0 0, .slice none 0 0] 29)))
        have d0 := ((alloc_below wr (.cells #[.string ⟨#[]⟩, .int .i64 0, .int .i64 0, .string ⟨#[]⟩, .slice none 0 0, .slice none 0 0] 29)).cell (block_lt_of_cell c0)).trans c0
        have d1 := ((alloc_below wr (.cells #[.string ⟨#[]⟩, .int .i64 0, .int .i64 0, .string ⟨#[]⟩, .slice none 0 0, .slice none 0 0] 29)).cell (block_lt_of_cell c1)).trans c1
        gi_upto_region 8 with fail
        generalize wr.alloc (.cells #[.string ⟨#[]⟩, .int .i64 0, .int .i64 0, .string ⟨#[]⟩, .slice none 0 0, .slice none 0 0] 29) = W1 at X0 G1 HEL1 d0 d1 ⊢
        generalize hD : wr.heap.size = D at X0 ⊢
        have HD := Lib.hid hD
        clear hD c0 c1
        obtain ⟨z0, z1, z2, z3, z4, z5, zf⟩ := cells6 X0.out
        have e0 := HEL1.out.c0
        have e1 := HEL1.out.c1
        have e2 := HEL1.out.c2
        have e3 := HEL1.out.c3
        have e4 := HEL1.out.c4
        have e5 := HEL1.out.c5
        dsimp only at e0 e1 e2 e3 e4 e5
        gi_upto_region 14 with fail
        have G2 := Lib.hid (show wr.grownBy ((((((W1.setCell ⟨D, 0, none⟩ (.string a.name)).setCell ⟨D, 1, none⟩ (.int .i64 a.kind)).setCell ⟨D, 2, none⟩ (.int .i64 a.num)).setCell ⟨D, 3, none⟩ (.string a.text)).setCell ⟨D, 4, none⟩ (.slice ai a.ints.length ci)).setCell ⟨D, 5, none⟩ (.slice ao a.texts.length ct)) none from
          grown_setCell (grown_setCell (grown_setCell (grown_setCell (grown_setCell (grown_setCell G1.out (by rw [HD.out]; exact Nat.le_refl _)) (by rw [HD.out]; exact Nat.le_refl _)) (by rw [HD.out]; exact Nat.le_refl _)) (by rw [HD.out]; exact Nat.le_refl _)) (by rw [HD.out]; exact Nat.le_refl _)) (by rw [HD.out]; exact Nat.le_refl _))
        have X2 := Lib.hid (set6_block (u0 := .string a.name) (u1 := .int .i64 a.kind) (u2 := .int .i64 a.num) (u3 := .string a.text) (u4 := .slice ai a.ints.length ci) (u5 := .slice ao a.texts.length ct) X0.out)
        generalize ((((((W1.setCell ⟨D, 0, none⟩ (.string a.name)).setCell ⟨D, 1, none⟩ (.int .i64 a.kind)).setCell ⟨D, 2, none⟩ (.int .i64 a.num)).setCell ⟨D, 3, none⟩ (.string a.text)).setCell ⟨D, 4, none⟩ (.slice ai a.ints.length ci)).setCell ⟨D, 5, none⟩ (.slice ao a.texts.length ct)) = W2 at G2 X2 ⊢
        clear z0 z1 z2 z3 z4 z5 zf e0 e1 e2 e3 e4 e5 d0 d1 X0 G1 HEL HEL1
        obtain ⟨z0, z1, z2, z3, z4, z5, zf⟩ := cells6 X2.out
        have K2 := Lib.hid (hh.out.2.2.2.trans (KeepB.grown (B := B) G2.out))
        have HLEN := Lib.hid hh.out.2.1
        obtain ⟨fn, tmps, assign, body, hyd, hR⟩ := HY.out pre ⟨a, ai, ci, ao, ct⟩ W2 (HA.out _ _ _ hh.out.2.2.1 G2.out) (by have := hh.out.2.1; omega)
        have HR := Lib.hid hR
        clear hR hh
        dsimp only [El.val] at hyd
        gi_wp2_with fail
        refine HR.out.mono ?_
        rintro e W3 (⟨rfl, hJ3, hk3⟩ | ⟨rfl, hJx3⟩)
        · have HJ3 := Lib.hid hJ3
          have K3 := Lib.hid (K2.out.trans hk3)
          clear hJ3 hk3
          gi_wp2_with fail
          go_roundw
          case rel => exact ⟨x + 1, M.length, pre ++ [⟨a, ai, ci, ao, ct⟩], by omega, Nat.le_refl _, rfl, rfl, by rw [List.append_assoc]; exact HQ.out, by have := HLEN.out; rw [List.length_append, List.length_singleton]; omega, HJ3.out, K3.out⟩
          case measure => simp only [intOf]; omega
        · have HJ3 := Lib.hid hJx3
          clear hJx3
          gi_wp2_with fail
          refine bodyPost_ret (results_none rfl _ _ _) rfl ?_
          exact ⟨⟨_, rfl⟩, .inr ⟨_, ⟨_, by rw [List.append_assoc]; exact HQ.out⟩, HJ3.out⟩⟩
    · obtain rfl : x = L.length := by omega
      by_cases hyl : y < M.length
      · rcases HMM.out wr hh.out.2.2.2 with h | ⟨bk, o, rfl, hc⟩
        · rw [h] at hyl; exact absurd hyl (Nat.not_lt_zero _)
        have hel := hc y hyl
        have HQ := Lib.hid (show pre ++ (M[y] :: mergeE (L.drop L.length) (M.drop (y + 1))) = mergeE L M by
          rw [← hh.out.1, List.drop_length, mergeE_nil, mergeE_nil, ← List.drop_eq_getElem_cons hyl])
        generalize M[y] = b at hel HQ
        obtain ⟨a, ai, ci, ao, ct⟩ := b
        have HEL := Lib.hid hel
        clear hel hc
        have X0 := Lib.hid (heap_alloc_new wr (.cells #[.string ⟨#[]⟩, .int .i64 0, .int .i64 0, .string ⟨#[]⟩, .slice none 0 0, .slice none 0 0] 29))
        have G1 := Lib.hid (World.grownBy_alloc wr (.cells #[.string ⟨#[]⟩, .int .i64 0, .int .i64 0, .string ⟨#[]⟩, .slice none 0 0, .slice none 0 0] 29) none)
        have HEL1 := Lib.hid (HEL.out.below (alloc_below wr (.cells #[.string ⟨#[]⟩, .int .i64 0, .int .i64 0, .string ⟨#[]⟩, .slice none 0 0, .slice none 0 0] 29)))
        have d0 := ((alloc_below wr (.cells #[.string ⟨#[]⟩, .int .i64 0, .int .i64 0, .string ⟨#[]⟩, .slice none 0 0, .slice none 0 0] 29)).cell (block_lt_of_cell c0)).trans c0
        have d1 := ((alloc_below wr (.cells #[.string ⟨#[]⟩, .int .i64 0, .int .i64 0, .string ⟨#[]⟩, .slice none 0 0, .slice none 0 0] 29)).cell (block_lt_of_cell c1)).trans c1
        gi_upto_region 8 with fail
        generalize wr.alloc (.cells #[.string ⟨#[]⟩, .int .i64 0, .int .i64 0, .string ⟨#[]⟩, .slice none 0 0, .slice none 0 0] 29) = W1 at X0 G1 HEL1 d0 d1 ⊢
        generalize hD : wr.heap.size = D at X0 ⊢
        have HD := Lib.hid hD
        clear hD c0 c1
        obtain ⟨z0, z1, z2, z3, z4, z5, zf⟩ := cells6 X0.out
        have e0 := HEL1.out.c0
        have e1 := HEL1.out.c1
        have e2 := HEL1.out.c2
        have e3 := HEL1.out.c3
        have e4 := HEL1.out.c4
        have e5 := HEL1.out.c5
        dsimp only at e0 e1 e2 e3 e4 e5
        gi_upto_region 14 with fail
        have G2 := Lib.hid (show wr.grownBy ((((((W1.setCell ⟨D, 0, none⟩ (.string a.name)).setCell ⟨D, 1, none⟩ (.int .i64 a.kind)).setCell ⟨D, 2, none⟩ (.int .i64 a.num)).setCell ⟨D, 3, none⟩ (.string a.text)).setCell ⟨D, 4, none⟩ (.slice ai a.ints.length ci)).setCell ⟨D, 5, none⟩ (.slice ao a.texts.length ct)) none from
          grown_setCell (grown_setCell (grown_setCell (grown_setCell (grown_setCell (grown_setCell G1.out (by rw [HD.out]; exact Nat.le_refl _)) (by rw [HD.out]; exact Nat.le_refl _)) (by rw [HD.out]; exact Nat.le_refl _)) (by rw [HD.out]; exact Nat.le_refl _)) (by rw [HD.out]; exact Nat.le_refl _)) (by rw [HD.out]; exact Nat.le_refl _))
        have X2 := Lib.hid (set6_block (u0 := .string a.name) (u1 := .int .i64 a.kind) (u2 := .int .i64 a.num) (u3 := .string a.text) (u4 := .slice ai a.ints.length ci) (u5 := .slice ao a.texts.length ct) X0.out)
        generalize ((((((W1.setCell ⟨D, 0, none⟩ (.string a.name)).setCell ⟨D, 1, none⟩ (.int .i64 a.kind)).setCell ⟨D, 2, none⟩ (.int .i64 a.num)).setCell ⟨D, 3, none⟩ (.string a.text)).setCell ⟨D, 4, none⟩ (.slice ai a.ints.length ci)).setCell ⟨D, 5, none⟩ (.slice ao a.texts.length ct)) = W2 at G2 X2 ⊢
        clear z0 z1 z2 z3 z4 z5 zf e0 e1 e2 e3 e4 e5 d0 d1 X0 G1 HEL HEL1
        obtain ⟨z0, z1, z2, z3, z4, z5, zf⟩ := cells6 X2.out
        have K2 := Lib.hid (hh.out.2.2.2.trans (KeepB.grown (B := B) G2.out))
        have HLEN := Lib.hid hh.out.2.1
        obtain ⟨fn, tmps, assign, body, hyd, hR⟩ := HY.out pre ⟨a, ai, ci, ao, ct⟩ W2 (HA.out _ _ _ hh.out.2.2.1 G2.out) (by have := hh.out.2.1; omega)
        have HR := Lib.hid hR
        clear hR hh
        dsimp only [El.val] at hyd
        gi_wp2_with fail
        refine HR.out.mono ?_
        rintro e W3 (⟨rfl, hJ3, hk3⟩ | ⟨rfl, hJx3⟩)
        · have HJ3 := Lib.hid hJ3
          have K3 := Lib.hid (K2.out.trans hk3)
          clear hJ3 hk3
          gi_wp2_with fail
          go_roundw
          case rel => exact ⟨L.length, y + 1, pre ++ [⟨a, ai, ci, ao, ct⟩], Nat.le_refl _, by omega, rfl, rfl, by rw [List.append_assoc]; exact HQ.out, by have := HLEN.out; rw [List.length_append, List.length_singleton]; omega, HJ3.out, K3.out⟩
          case measure => simp only [intOf]; omega
        · have HJ3 := Lib.hid hJx3
          clear hJx3
          gi_wp2_with fail
          refine bodyPost_ret (results_none rfl _ _ _) rfl ?_
          exact ⟨⟨_, rfl⟩, .inr ⟨_, ⟨_, by rw [List.append_assoc]; exact HQ.out⟩, HJ3.out⟩⟩
      · obtain rfl : y = M.length := by omega
        gi_wp2_with fail
        go_end0
        refine ⟨⟨_, rfl⟩, .inl ⟨_, rfl, ?_⟩⟩
        have := hh.out.1
        rw [List.drop_length, List.drop_length, mergeE_nil, List.append_nil] at this
        rw [← this]
        exact hh.out.2.2.1
end Go.Proofs.YtiofnjnaleglgaaGreatDoor

/-
  'united': its iterator's contract as a sequence.
-/
namespace Go.Proofs.YtiofnjnaleglgaaGreatDoor
open Go.RowKit Go.Shelf

theorem KeepB.strs {B : Nat} {w w' : World} {ao : Option Addr} {zs : List ByteArray} (h : KeepB B w w') (hB : ∀ a, ao = some a → a.block < B) (hz : StrsAt w ao zs) : StrsAt w' ao zs := by
  rcases hz with h0 | ⟨a, rfl, hc⟩
  · exact .inl h0
  · exact .inr ⟨a, rfl, fun j hj => h.cell (by rw [add_block]; exact hB a rfl) (hc j hj)⟩
theorem ints_kept {B : Nat} {w W X : World} {ao : Option Addr} {zs : List Int} (hb : Below w.heap.size w W) (hk : KeepB B W X) (hB : w.heap.size ≤ B) (h : IntsAt w ao zs) : IntsAt X ao zs := by
  rcases h with h0 | ⟨a, rfl, hc⟩
  · exact .inl h0
  · exact .inr ⟨a, rfl, fun j hj => hk.cell (Nat.lt_of_lt_of_le (block_lt_of_cell (hc j hj)) hB) ((hb.cell (block_lt_of_cell (hc j hj))).trans (hc j hj))⟩
theorem strs_kept {B : Nat} {w W X : World} {ao : Option Addr} {zs : List ByteArray} (hb : Below w.heap.size w W) (hk : KeepB B W X) (hB : w.heap.size ≤ B) (h : StrsAt w ao zs) : StrsAt X ao zs := by
  rcases h with h0 | ⟨a, rfl, hc⟩
  · exact .inl h0
  · exact .inr ⟨a, rfl, fun j hj => hk.cell (Nat.lt_of_lt_of_le (block_lt_of_cell (hc j hj)) hB) ((hb.cell (block_lt_of_cell (hc j hj))).trans (hc j hj))⟩
theorem ElsAt.kept {B : Nat} {w W X : World} {so : Option Addr} {l : List El} (hb : Below w.heap.size w W) (hk : KeepB B W X) (hB : w.heap.size ≤ B) (h : ElsAt w so l) : ElsAt X so l := by
  rcases h with h0 | ⟨bk, o, rfl, hc⟩
  · exact .inl h0
  · refine .inr ⟨bk, o, rfl, fun j hj => ?_⟩
    have h := hc j hj
    have hcl : ∀ {x : Addr} {v : Value}, w.cell? x = some v → X.cell? x = some v := fun hx => hk.cell (Nat.lt_of_lt_of_le (block_lt_of_cell hx) hB) ((hb.cell (block_lt_of_cell hx)).trans hx)
    exact ⟨hcl h.c0, hcl h.c1, hcl h.c2, hcl h.c3, hcl h.c4, hcl h.c5, ints_kept hb hk hB h.ints, strs_kept hb hk hB h.texts, h.icap, h.tcap, h.wf⟩
theorem KeepB.putObj {B : Nat} (W : World) (l : Nat) (o o' : Obj) (hl : W.heap[l]? = some o) (ho : o.isCells = false) : KeepB B W (W.putObj l o') := fun k _ _ _ _ hk =>
  ((grownBy_putObj' W l o').block k (lt_of_block hk) (fun e => by cases e; rw [hk] at hl; cases hl; cases ho)).trans hk

/-- The iterator of 'united' gives the merged list, one attribute after the other. -/
theorem united_stops (n : Nat) (hn : 1 ≤ n) (B S S' : Nat) (so so' : Option Addr) (L M : List El) (c c' : Nat) (hL : L.length ≤ 1000) (hM : M.length ≤ 1000) (w : World) (hB : w.heap.size ≤ B)
    (hb : w.heap[S]? = some (.cells #[.slice so L.length c] 22 (0, 0))) (hb' : w.heap[S']? = some (.cells #[.slice so' M.length c'] 22 (0, 0))) (hl : ElsAt w so L) (hm : ElsAt w so' M) :
    SeqStopsK Fence.wide n Tryz.prog 73 #[.pointer (some ⟨S, 0, none⟩), .pointer (some ⟨S', 0, none⟩)] (fun x : El => #[x.val]) (KeepB B) (fun ys => ys = mergeE L M) (fun pre => pre <+: mergeE L M) (L.length + M.length) w :=
  fun q J Jx W hW hJ _ hY h0 => united1_in n hn q B S S' (Nat.lt_of_lt_of_le (lt_of_block hb) hB) (Nat.lt_of_lt_of_le (lt_of_block hb') hB) so so' L M c c' hL hM J Jx (fun s X Y hs hg => hJ s X Y none hs hg (fun r e => by cases e)) hY W
    ((hW.block S (lt_of_block hb)).trans hb) ((hW.block S' (lt_of_block hb')).trans hb') (fun _ hX => hl.kept hW hX hB) (fun _ hX => hm.kept hW hX hB) h0

set_option maxHeartbeats 400000 in
theorem united_any (so so' : Option Addr) (l m c c' : Nat) (w : World) :
    Calls Tryz.prog 44 #[.slice so l c, .slice so' m c'] w fun e w' => e = .returned (.func (.func 73) #[] #[.pointer (some ⟨w.heap.size, 0, none⟩), .pointer (some ⟨w.heap.size + 1, 0, none⟩)]) ∧
      w'.heap[w.heap.size]? = some (.cells #[.slice so l c] 22 (0, 0)) ∧ w'.heap[w.heap.size + 1]? = some (.cells #[.slice so' m c'] 22 (0, 0)) ∧ Below w.heap.size w w' := by
  have T0 := Lib.hid (heap_alloc_new w (.cells #[.slice so l c] 22))
  have T1 := Lib.hid (heap_alloc_new (w.alloc (.cells #[.slice so l c] 22)) (.cells #[.slice so' m c'] 22))
  have T2 := Lib.hid ((Below.heap_alloc (w.alloc (.cells #[.slice so l c] 22)) (.cells #[.slice so' m c'] 22) _ (lt_of_block T0.out)).trans T0.out)
  have B1 := Lib.hid ((alloc_below w (.cells #[.slice so l c] 22)).alloc (alloc_below w (.cells #[.slice so l c] 22)).size (.cells #[.slice so' m c'] 22))
  rw [show (w.alloc (.cells #[.slice so l c] 22)).heap.size = w.heap.size + 1 from by simp] at T1
  go_enter Tryz.func44, Tryz.ntmps44
  go_wp2_with fail
  go_ret
  exact ⟨rfl, T2.out, T1.out, B1.out⟩

/-- The attributes of a slice with their places; and back. -/
theorem els_of_list {w : World} {so : Option Addr} {l : List At} (h : ListAt w so l) : ∃ L : List El, L.map (·.a) = l ∧ ElsAt w so L := by
  rcases h with rfl | ⟨bk, o, rfl, hc⟩
  · exact ⟨[], rfl, .inl rfl⟩
  · have hf : ∀ j, ∃ e : El, e.a = nth l j ∧ (j < l.length → ElAt w bk (o + j * 6) e.a e.ai e.ci e.ao e.ct) := fun j => by
      by_cases hj : j < l.length
      · obtain ⟨ai, ci, ao, ct, h⟩ := hc j hj
        exact ⟨⟨nth l j, ai, ci, ao, ct⟩, rfl, fun _ => h⟩
      · exact ⟨⟨nth l j, none, 0, none, 0⟩, rfl, fun h => absurd h hj⟩
    obtain ⟨f, hf⟩ := Classical.axiomOfChoice hf
    refine ⟨(List.range l.length).map f, ?_, .inr ⟨bk, o, rfl, fun j hj => ?_⟩⟩
    · apply List.ext_getElem
      · simp
      · intro j h1 h2
        simp only [List.getElem_map, List.getElem_range]
        rw [(hf j).1, nth_get h2]
    · have hj' : j < l.length := by simpa using hj
      simp only [List.getElem_map, List.getElem_range]
      exact (hf j).2 hj'
theorem list_of_els {w : World} {so : Option Addr} {L : List El} (h : ElsAt w so L) : ListAt w so (L.map (·.a)) := by
  rcases h with rfl | ⟨bk, o, rfl, hc⟩
  · exact .inl rfl
  · refine .inr ⟨bk, o, rfl, fun j hj => ?_⟩
    have hj' : j < L.length := by simpa using hj
    have h := hc j hj'
    rw [nth_get hj, List.getElem_map]
    exact ⟨_, _, _, _, h⟩
end Go.Proofs.YtiofnjnaleglgaaGreatDoor

/-
  'slices.AppendSeq' and 'slices.Collect' over attributes.
-/
namespace Go.Proofs.YtiofnjnaleglgaaGreatDoor
open Go.RowKit Go.Shelf
attribute [local go_sem] Oper.semAt_some

def El.cells (e : El) : List Value := [.string e.a.name, .int .i64 e.a.kind, .int .i64 e.a.num, .string e.a.text, .slice e.ai e.a.ints.length e.ci, .slice e.ao e.a.texts.length e.ct]
theorem cells_length : ∀ es : List El, (es.flatMap El.cells).length = es.length * 6
  | [] => rfl
  | e :: es => by rw [List.flatMap_cons, List.length_append, cells_length es, List.length_cons]; simp only [El.cells, List.length_cons, List.length_nil]; omega
theorem own6_slice {w : World} {B : Nat} {v : Value} {n : Nat} {xs : List Value} (h : w.ownsRow B 29 6 v n xs) : ∃ ao c, v = .slice ao n c := by
  rcases h.2 with ⟨rfl, h0⟩ | ⟨g, cap, cur, rfl, _⟩
  · exact ⟨none, 0, by rw [h0]⟩
  · exact ⟨_, _, rfl⟩

/-- Every block of cells that holds no attributes lies as it lay. -/
def KeepT (w w' : World) : Prop := ∀ (k : Nat) (cs : Array Value) (t : TypeId) (fr : Nat × Nat), t ≠ 29 → w.heap[k]? = some (.cells cs t fr) → w'.heap[k]? = some (.cells cs t fr)
/-- One attribute is appended to a slice of the call's own: what is kept. -/
theorem append6_keeps {w : World} {B : Nat} {ao : Option Addr} {c : Nat} {es : List El} (h : w.ownsRow B 29 6 (.slice ao es.length c) es.length (es.flatMap El.cells)) (hB : B ≤ w.heap.size) (h3 : es.length ≤ 2000) (x : El) (T : TypeId) {ty : TypeId} :
    ∃ ao' c' w', (Builtin.append_ #[22, 22] ty #[.slice ao es.length c, .slice (some ⟨w.heap.size, 0, none⟩) 1 1]).run Tryz.prog (w.alloc (.cells x.cells.toArray T)) = .ok (.slice ao' (es.length + 1) c') w' ∧
      w'.ownsRow B 29 6 (.slice ao' (es ++ [x]).length c') (es ++ [x]).length ((es ++ [x]).flatMap El.cells) ∧ Below B w w' ∧ w.heap.size ≤ w'.heap.size ∧ (KeepsOthers w w' ∧ KeepT w w') := by
  obtain ⟨i, hi, hz, hsz, hby⟩ := info_attr
  have hown : (w.alloc (.cells x.cells.toArray T)).ownsRow B 29 6 (.slice ao es.length c) es.length (es.flatMap El.cells) := by
    refine ⟨h.1, ?_⟩
    rcases h.2 with h | ⟨g, c', cur, hv, hb, hg, hr⟩
    · exact .inl h
    · exact .inr ⟨g, c', cur, hv, hb, (Below.heap_alloc _ _ _ (lt_of_block hg)).trans hg, hr⟩
  have hcell : ∀ j u, x.cells[j]? = some u → (w.alloc (.cells x.cells.toArray T)).cell? ((⟨w.heap.size, 0, none⟩ : Addr).add j) = some u := by
    intro j u hj
    rw [add_row, row_cell (heap_alloc_new _ _), List.getElem?_toArray]
    exact hj
  obtain ⟨v', w', hr, h1, h2, _, h4⟩ := run_append_own_at (P := Tryz.prog) (w.alloc (.cells x.cells.toArray T)) B 22 ty 29 i _ 6 i.bytes Tryz.underlying22 hi hz hsz rfl rfl (by decide)
    (.slice ao es.length c) es.length (es.flatMap El.cells) hown ⟨w.heap.size, 0, none⟩ 1 1 x.cells rfl hcell (fun u hu => by simp only [El.cells, List.mem_cons, List.not_mem_nil, or_false] at hu; rcases hu with rfl | rfl | rfl | rfl | rfl | rfl <;> rfl) (by simp only [maxLen]; omega) (by
      have : (es.length + 1) * i.bytes ≤ 2001 * i.bytes := Nat.mul_le_mul_right _ (by omega)
      omega) (by simp; omega)
  obtain ⟨ao', c', rfl⟩ := own6_slice h1
  have hs : w.heap.size ≤ w'.heap.size := by have := h2.size; simp at this; omega
  have hk : ∀ k, k < w.heap.size → some k ≠ (Value.slice ao es.length c).ownBlock → w'.heap[k]? = w.heap[k]? := fun k hk hne =>
    (h2.block k (by simp; omega) hne).trans (Below.heap_alloc _ _ _ (by omega))
  have hob : ∀ k, some k = (Value.slice ao es.length c).ownBlock → B ≤ k ∧ ∃ cur, w.heap[k]? = some (.cells cur 29 (0, 0)) := by
    intro k e
    rcases h.2 with ⟨hv, _⟩ | ⟨g, cc, cur, hv, hb, hg, _⟩
    · rw [hv] at e; cases e
    · rw [hv] at e
      cases e
      exact ⟨hb, cur, hg⟩
  refine ⟨ao', c', w', hr, ?_, ?_, hs, ⟨hs, fun k o ho hc => ?_⟩, fun k cs t fr ht hkk => (hk k (lt_of_block hkk) (fun e => by
    obtain ⟨_, cur, hg⟩ := hob k e
    rw [hg] at hkk
    cases hkk
    exact ht rfl)).trans hkk⟩
  · rw [List.length_append, List.flatMap_append]
    simpa using h1
  · refine ⟨h2.os.trans rfl, h2.tape.trans rfl, h2.output.trans rfl, by omega, fun k hkB => hk k (by omega) (fun e => ?_)⟩
    have := (hob k e).1
    omega
  · refine (hk k (lt_of_block ho) (fun e => ?_)).trans ho
    obtain ⟨_, cur, hg⟩ := hob k e
    rw [hg] at ho
    cases ho
    cases hc

theorem wpIn_append_el {F : Fence} {m : Nat} {ops : Array Oper} {rest : List Oper} {o : Oper} {a : Act} {Q : Exit → Act → World → Prop} {w : World} (hgd : o.guard = none) (s x : Operand)
    (ho : o.op = .call { callee := .builtin .append, args := #[s, x], argTypes := #[22, 22] }) {B : Nat} {ao : Option Addr} {c : Nat} {es : List El} {e : El}
    (h : w.ownsRow B 29 6 (.slice ao es.length c) es.length (es.flatMap El.cells)) (hB : B ≤ w.heap.size) (h3 : es.length ≤ 2000) (hs : a.eval s = .slice ao es.length c) (hx : a.eval x = .slice (some ⟨w.heap.size, 0, none⟩) 1 1)
    (hk : ∀ ao' c' w', w'.ownsRow B 29 6 (.slice ao' (es ++ [e]).length c') (es ++ [e]).length ((es ++ [e]).flatMap El.cells) → Below B w w' → (KeepsOthers w w' ∧ KeepT w w') → wpListIn F m Tryz.prog ops Q rest (a.put o.dst (.slice ao' (es.length + 1) c')) w') :
    wpListIn F m Tryz.prog ops Q (o :: rest) a (w.alloc (.cells #[.string e.a.name, .int .i64 e.a.kind, .int .i64 e.a.num, .string e.a.text, .slice e.ai e.a.ints.length e.ci, .slice e.ao e.a.texts.length e.ct] 29)) := by
  obtain ⟨ao', c', w', hr, h1, h2, _, h4⟩ := append6_keeps (ty := o.type) h hB h3 e 29
  refine wpListIn_plain hgd fun K hK => ?_
  unfold Oper.wpIn
  refine ⟨?_, ?_⟩
  · simp [Oper.about, ho, resolve, Target.leads, Sem.run_pure]
  · rw [Oper.semAt_plain F _ _ (by rw [ho]; intro c hc'; cases hc')]
    simp only [El.cells] at hr
    simp [execOp, ho, resolve, invoke, builtin, hs, hx, hr, Result.andThen]
    exact hK _ _ (hk ao' c' w' h1 h2 h4)

/-- What 'AppendSeq' holds between two rounds: the box of its slice, which owns what has come. -/
structure ColA (w : World) (es : List El) (W : World) : Prop where
  box : ∃ ao c, W.heap[w.heap.size]? = some (.cells #[.slice ao es.length c] 22 (0, 0)) ∧ W.ownsRow (w.heap.size + 1) 29 6 (.slice ao es.length c) es.length (es.flatMap El.cells)
  below : Below w.heap.size w W
  size : w.heap.size + 1 ≤ W.heap.size
theorem colA_own (w : World) (B : Nat) (hB : w.heap.size ≤ B) : OwnFrom B (fun (pre : List El) W => ColA w pre W) := by
  intro s X Y row h hg hr
  have ncell : ∀ {k : Nat} {cs : Array Value} {t : TypeId} {fr : Nat × Nat}, X.heap[k]? = some (.cells cs t fr) → some k ≠ row := by
    intro k cs t fr hk e
    obtain ⟨_, o, ho, hc⟩ := hr k e.symm
    rw [hk] at ho
    cases ho
    cases hc
  obtain ⟨ao, c, hv, ho⟩ := h.box
  refine ⟨⟨ao, c, (hg.block _ (lt_of_block hv) (ncell hv)).trans hv, ho.1, ?_⟩, h.below.grown hg h.below.size (fun k e => Nat.le_trans hB (hr k e).1), Nat.le_trans h.size hg.size⟩
  rcases ho.2 with h1 | ⟨g, cap, cur, h1, hb, hh, hx⟩
  · exact .inl h1
  · exact .inr ⟨g, cap, cur, h1, hb, (hg.block _ (lt_of_block hh) (ncell hh)).trans hh, hx⟩
/-- The variable of a round holds the attribute that has come. -/
def HoldsEl (S S' b : Nat) (x : El) (a : Act) (W : World) : Prop := ∃ D, b < D ∧ a = { tmps := #[.slice none 0 0, (.func (.func 73) #[] #[.pointer (some ⟨S, 0, none⟩), .pointer (some ⟨S', 0, none⟩)]), .pointer (some ⟨b, 0, none⟩), undef, .slice none 0 0, .pointer (some ⟨D, 0, none⟩), (.func (.func 73) #[] #[.pointer (some ⟨S, 0, none⟩), .pointer (some ⟨S', 0, none⟩)]), x.val, undef, undef, undef, undef, undef], defers := [] } ∧
  W.heap[D]? = some (.cells #[.string x.a.name, .int .i64 x.a.kind, .int .i64 x.a.num, .string x.a.text, .slice x.ai x.a.ints.length x.ci, .slice x.ao x.a.texts.length x.ct] 29 (0, 0))
end Go.Proofs.YtiofnjnaleglgaaGreatDoor

/-
  'slices.AppendSeq' over the attributes of two lists.
-/
namespace Go.Proofs.YtiofnjnaleglgaaGreatDoor
open Go.RowKit Go.Shelf
attribute [local go_sem] Oper.semAt_some


theorem keeps_setA {W w3 : World} {b : Nat} {cs : Array Value} {t : TypeId} {fr : Nat × Nat} (hk : KeepsOthers W w3) (hb : w3.heap[b]? = some (.cells cs t fr)) (v : Value) : KeepsOthers W (w3.setCell ⟨b, 0, none⟩ v) :=
  hk.trans ⟨by rw [setCell_size]; exact Nat.le_refl _, fun k o ho hc => by
    by_cases e : k = b
    · subst e
      rw [hb] at ho
      cases ho
      cases hc
    · exact (heap_setCell_other _ _ _ _ e).trans ho⟩
theorem own6_kept {w w' : World} {B n sz : Nat} {e : TypeId} {v : Value} {xs : List Value} (h : w.ownsRow B e sz v n xs) (hk : ∀ k, B ≤ k → k < w.heap.size → w'.heap[k]? = w.heap[k]?) : w'.ownsRow B e sz v n xs := by
  refine ⟨h.1, ?_⟩
  rcases h.2 with h1 | ⟨g, cap, cur, h1, hb, hh, hx⟩
  · exact .inl h1
  · exact .inr ⟨g, cap, cur, h1, hb, (hk g hb (lt_of_block hh)).trans hh, hx⟩
theorem own6_put {w : World} {B n sz l : Nat} {e : TypeId} {v : Value} {xs : List Value} {o : Obj} (h : w.ownsRow B e sz v n xs) (hl : w.heap[l]? = some o) (ho : o.isCells = false) (o' : Obj) : (w.putObj l o').ownsRow B e sz v n xs := by
  refine ⟨h.1, ?_⟩
  rcases h.2 with h1 | ⟨g, cap, cur, h1, hb, hh, hx⟩
  · exact .inl h1
  · exact .inr ⟨g, cap, cur, h1, hb, (World.putObj_heap_other (fun e => by subst e; rw [hl] at hh; cases hh; cases ho)).trans hh, hx⟩

set_option maxRecDepth 100000 in
set_option maxHeartbeats 4000000 in
theorem appendSeqA (S S' : Nat) (so so' : Option Addr) (L M : List El) (c c' : Nat) (hL : L.length ≤ 1000) (hM : M.length ≤ 1000) (w : World)
    (hb : w.heap[S]? = some (.cells #[.slice so L.length c] 22 (0, 0))) (hb' : w.heap[S']? = some (.cells #[.slice so' M.length c'] 22 (0, 0))) (hl : ElsAt w so L) (hm : ElsAt w so' M) :
    Calls Tryz.prog 72 #[.slice none 0 0, .func (.func 73) #[] #[.pointer (some ⟨S, 0, none⟩), .pointer (some ⟨S', 0, none⟩)]] w
      fun e w' => ∃ (ao : Option Addr) (cc : Nat), e = .returned (.slice ao (mergeE L M).length cc) ∧ w'.ownsRow (w.heap.size + 1) 29 6 (.slice ao (mergeE L M).length cc) (mergeE L M).length ((mergeE L M).flatMap El.cells) ∧ Below w.heap.size w w' := by
  refine (callsIn_wide (n := 3)).1 ?_
  refine callsIn_of_wp_marks Tryz.func72 rfl trivial ?_ rfl
  simp only [Tryz.ntmps72, List.size_toArray, List.length_cons, List.length_nil, Nat.reduceAdd, Nat.reduceSub, Array.replicate_succ, Array.replicate_zero, List.push_toArray, List.append_toArray, List.nil_append, List.cons_append]
  have hC0 : ColA w [] (w.alloc (.cells #[.slice none 0 0] 22)) := ⟨⟨none, 0, heap_alloc_new _ _, World.ownsRow_nil _ _ _ _⟩, (Below.refl _ _).alloc (Nat.le_refl _) _, by simp⟩
  gi_wp2_with fail
  refine wpIn_rangeFunc_ownH rfl (by omega) (gf := 73) (lb := #[.pointer (some ⟨S, 0, none⟩), .pointer (some ⟨S', 0, none⟩)]) rfl trivial (enters_of Tryz.func73 (by kernel_rfl) rfl)
      (united_stops 2 (by omega) w.heap.size S S' so so' L M c c' hL hM w (Nat.le_refl _) hb hb' hl hm) (fun h h' => h.trans h') (fun W l o o' _ hl ho _ => KeepB.putObj W l o o' hl ho) ((Below.refl _ _).alloc (Nat.le_refl _) _) (fun _ => rfl)
      (fun pre W => ColA w pre W) (fun _ _ _ => False) (colA_own w _ (by simp)) (fun _ _ _ _ _ hs _ _ => hs) hC0 (fun x a' W => HoldsEl S S' w.heap.size x a' W) ?hax ?assign ?body ?done ?stop
  case hax =>
    rintro x a' s X Y row ⟨D, hD, ha, hh⟩ hg hr
    exact ⟨D, hD, ha, (hg.block _ (lt_of_block hh) (fun e => by
      obtain ⟨_, o, ho, hc⟩ := hr D e.symm
      rw [hh] at ho
      cases ho
      cases hc)).trans hh⟩
  case assign =>
    intro l pre x W K hC hK
    have HK := Lib.hid hK
    have HC := Lib.hid hC
    clear hK hC
    obtain ⟨a, ai, ci, ap, ct⟩ := x
    simp only [El.val]
    have hG := Lib.hid (World.grownBy_alloc W (.cells #[.string a.name, .int .i64 a.kind, .int .i64 a.num, .string a.text, .slice ai a.ints.length ci, .slice ap a.texts.length ct] 29) none)
    have hX := Lib.hid (heap_alloc_new W (.cells #[.string a.name, .int .i64 a.kind, .int .i64 a.num, .string a.text, .slice ai a.ints.length ci, .slice ap a.texts.length ct] 29))
    gi_wp2_with fail
    exact HK.out _ _ ((KeepsOthers.of_grownBy hG.out (fun j o e => by cases e)).from _) (KeepB.grown hG.out) (colA_own w _ (Nat.le_refl _) _ _ _ _ HC.out hG.out (fun r e => by cases e))
      ⟨W.heap.size, by have := HC.out.size; omega, rfl, hX.out⟩
  case body =>
    rintro l pre x a' W _ _ hC ⟨D, hD, rfl, hh⟩ hlt
    obtain ⟨a, ai, ci, ap, ct⟩ := x
    have H3 : pre.length ≤ 2000 := by omega
    obtain ⟨ao, cc, hbx, hown⟩ := hC.box
    have HB := Lib.hid hC.below
    have HS := Lib.hid hC.size
    have hcell : W.cell? ⟨w.heap.size, 0, none⟩ = some (.slice ao pre.length cc) := cell_of_row W w.heap.size 0 _ _ _ hbx
    obtain ⟨z0, z1, z2, z3, z4, z5, zf⟩ := cells6 hh
    have HOWN := Lib.hid hown
    have HBX := Lib.hid hbx
    clear hC hown hbx hh hb hb' hl hm hC0
    dsimp only at z0 z1 z2 z3 z4 z5
    gi_wp2_with (gi_at_builtin; refine wpIn_append_el (e := ⟨a, ai, ci, ap, ct⟩) rfl _ _ rfl HOWN.out HS.out H3 rfl rfl ?_; intro ao' c' w3 hown hbel hko; have HOWN3 := Lib.hid hown; have HBEL := Lib.hid hbel; have HK := Lib.hid hko; have HBX3 := Lib.hid ((hbel.block w.heap.size (by omega)).trans HBX.out); have hf3 : w3.frozen? ⟨w.heap.size, 0, none⟩ = false := (by simp [World.frozen?, HBX3.out]); have hc3 : w3.cell? ⟨w.heap.size, 0, none⟩ = some (.slice ao pre.length cc) := cell_of_row w3 w.heap.size 0 _ _ _ HBX3.out; clear hown hbel hko)
    refine ⟨(keeps_setA HK.out.1 HBX3.out _).from _, fun k cs t fr hk hh => (heap_setCell_other _ _ _ _ (by dsimp only; omega)).trans ((HBEL.out.block k (by omega)).trans hh), ⟨ao', c', ?_, ?_⟩, ?_, ?_⟩
    · refine (heap_setCell_same _ _ 0 _ _ _ HBX3.out).trans ?_
      rw [List.length_append, List.length_singleton]
      rfl
    · exact own6_kept HOWN3.out fun k hk _ => heap_setCell_other _ _ _ _ (by dsimp only; omega)
    · exact (HB.out.trans (HBEL.out.mono (by omega))).setCell (Nat.le_refl _) _
    · rw [setCell_size]
      have h1 := HBEL.out.size
      have h2 := HS.out
      omega
  case done =>
    rintro Df ys W hD rfl hC hK
    obtain ⟨ao, cc, hbx, hown⟩ := hC.box
    have HB := Lib.hid hC.below
    have HOWN := Lib.hid hown
    have hcell : W.cell? ⟨w.heap.size, 0, none⟩ = some (.slice ao (mergeE L M).length cc) := cell_of_row W w.heap.size 0 _ _ _ hbx
    have HK := Lib.hid hK
    clear hC hown hbx hK
    gi_wp2_with fail
    refine ⟨by simp, .inl ⟨_, _, rfl, run_takeDeferred HK.out, ?_⟩⟩
    refine ⟨_, results_tmp rfl _ _ _, ?_⟩
    exact ⟨ao, cc, rfl, own6_put HOWN.out HK.out rfl _, HB.out.trans (belowK_b (w := w) (Nat.le_refl _) W Df _ _ (by simp at hD; omega) HK.out rfl rfl)⟩
  case stop =>
    rintro Df c pre W _ _ h _
    exact h.elim
end Go.Proofs.YtiofnjnaleglgaaGreatDoor

/-
  'slices.Collect' over attributes; two lists made one; 'Merge' and 'Set' by their contracts.
-/
namespace Go.Proofs.YtiofnjnaleglgaaGreatDoor
open Go.RowKit Go.Shelf Go.BigFrame

set_option maxHeartbeats 400000 in
theorem collectA (S S' : Nat) (so so' : Option Addr) (L M : List El) (c c' : Nat) (hL : L.length ≤ 1000) (hM : M.length ≤ 1000) (w : World)
    (hb : w.heap[S]? = some (.cells #[.slice so L.length c] 22 (0, 0))) (hb' : w.heap[S']? = some (.cells #[.slice so' M.length c'] 22 (0, 0))) (hl : ElsAt w so L) (hm : ElsAt w so' M) :
    Calls Tryz.prog 43 #[.func (.func 73) #[] #[.pointer (some ⟨S, 0, none⟩), .pointer (some ⟨S', 0, none⟩)]] w
      fun e w' => ∃ (ao : Option Addr) (cc : Nat), e = .returned (.slice ao (mergeE L M).length cc) ∧ w'.ownsRow (w.heap.size + 1) 29 6 (.slice ao (mergeE L M).length cc) (mergeE L M).length ((mergeE L M).flatMap El.cells) ∧ Below w.heap.size w w' := by
  have HB := Lib.hid hb
  have HB' := Lib.hid hb'
  have HL := Lib.hid hl
  have HM := Lib.hid hm
  clear hb hb' hl hm
  go_enter Tryz.func43, Tryz.ntmps43
  go_wp2_with fail
  refine (appendSeqA S S' so so' L M c c' hL hM _ HB.out HB'.out HL.out HM.out).mono ?_
  rintro e w1 ⟨ao, cc, rfl, hi, hb1⟩
  have HI := Lib.hid hi
  have HB1 := Lib.hid hb1
  clear hi hb1
  go_wp2_with fail
  go_ret
  exact ⟨ao, cc, rfl, HI.out, HB1.out⟩

/-! ### Two lists made one -/
def cmpA (x y : At) : Int := Lib.compareBytes x.name.data.toList y.name.data.toList
def mergeL : List At → List At → List At
  | [], m => m
  | x :: l, [] => x :: l
  | x :: l, y :: m => if cmpA x y < 0 then x :: mergeL l (y :: m) else if 0 < cmpA x y then y :: mergeL (x :: l) m else y :: mergeL l m
termination_by l m => l.length + m.length
theorem mergeL_lt {x y : At} {l m : List At} (h : cmpA x y < 0) : mergeL (x :: l) (y :: m) = x :: mergeL l (y :: m) := by rw [mergeL, if_pos h]
theorem mergeL_gt {x y : At} {l m : List At} (h : 0 < cmpA x y) : mergeL (x :: l) (y :: m) = y :: mergeL (x :: l) m := by rw [mergeL, if_neg (by omega), if_pos h]
theorem mergeL_eq {x y : At} {l m : List At} (h : cmpA x y = 0) : mergeL (x :: l) (y :: m) = y :: mergeL l m := by rw [mergeL, if_neg (by omega), if_neg (by omega)]
theorem mergeL_nil (m : List At) : mergeL [] m = m := by rw [mergeL]
theorem mergeL_nil_r (l : List At) : mergeL l [] = l := by cases l <;> rw [mergeL]

theorem mergeE_all : ∀ (n : Nat) (L M : List El), L.length + M.length ≤ n → (mergeE L M).map (·.a) = mergeL (L.map (·.a)) (M.map (·.a)) ∧ (mergeE L M).length ≤ L.length + M.length ∧ ∀ e ∈ mergeE L M, e ∈ L ∨ e ∈ M := by
  intro n
  induction n with
  | zero =>
    intro L M h
    have hL : L = [] := List.eq_nil_of_length_eq_zero (by omega)
    have hM : M = [] := List.eq_nil_of_length_eq_zero (by omega)
    subst hL hM
    rw [mergeE_nil]
    exact ⟨by rw [List.map_nil, mergeL_nil], by simp, fun e he => by cases he⟩
  | succ n ih =>
    intro L M h
    cases L with
    | nil =>
      rw [mergeE_nil]
      exact ⟨by rw [List.map_nil, mergeL_nil], by simp, fun e he => .inr he⟩
    | cons x L =>
      cases M with
      | nil =>
        rw [mergeE_nil_r]
        exact ⟨by rw [List.map_nil, mergeL_nil_r], by simp, fun e he => .inl he⟩
      | cons y M =>
        simp only [List.length_cons] at h
        rcases (show cmpE x y < 0 ∨ cmpE x y = 0 ∨ 0 < cmpE x y by omega) with hc | hc | hc
        · obtain ⟨h1, h2, h3⟩ := ih L (y :: M) (by simp only [List.length_cons]; omega)
          rw [mergeE_lt hc]
          refine ⟨?_, by simp only [List.length_cons] at h2 ⊢; omega, fun e he => ?_⟩
          · rw [List.map_cons, List.map_cons, List.map_cons, mergeL_lt (x := x.a) (y := y.a) hc, h1, List.map_cons]
          · rcases List.mem_cons.1 he with rfl | he
            · exact .inl (List.mem_cons_self ..)
            · rcases h3 e he with h | h
              · exact .inl (List.mem_cons_of_mem _ h)
              · exact .inr h
        · obtain ⟨h1, h2, h3⟩ := ih L M (by omega)
          rw [mergeE_eq hc]
          refine ⟨?_, by simp only [List.length_cons]; omega, fun e he => ?_⟩
          · rw [List.map_cons, List.map_cons, List.map_cons, mergeL_eq (x := x.a) (y := y.a) hc, h1]
          · rcases List.mem_cons.1 he with rfl | he
            · exact .inr (List.mem_cons_self ..)
            · rcases h3 e he with h | h
              · exact .inl (List.mem_cons_of_mem _ h)
              · exact .inr (List.mem_cons_of_mem _ h)
        · obtain ⟨h1, h2, h3⟩ := ih (x :: L) M (by simp only [List.length_cons]; omega)
          rw [mergeE_gt hc]
          refine ⟨?_, by simp only [List.length_cons] at h2 ⊢; omega, fun e he => ?_⟩
          · rw [List.map_cons, List.map_cons, List.map_cons, mergeL_gt (x := x.a) (y := y.a) hc, h1, List.map_cons]
          · rcases List.mem_cons.1 he with rfl | he
            · exact .inr (List.mem_cons_self ..)
            · rcases h3 e he with h | h
              · exact .inl h
              · exact .inr (List.mem_cons_of_mem _ h)
theorem mergeE_map (L M : List El) : (mergeE L M).map (·.a) = mergeL (L.map (·.a)) (M.map (·.a)) := (mergeE_all _ L M (Nat.le_refl _)).1
theorem mergeE_len (L M : List El) : (mergeE L M).length ≤ L.length + M.length := (mergeE_all _ L M (Nat.le_refl _)).2.1
theorem mergeE_mem {L M : List El} {e : El} (h : e ∈ mergeE L M) : e ∈ L ∨ e ∈ M := (mergeE_all _ L M (Nat.le_refl _)).2.2 e h

/-! ### A slice of the call's own as a list -/
theorem flat6 : ∀ (es : List El) (j k : Nat) (h : j < es.length), k < 6 → (es.flatMap El.cells)[j * 6 + k]? = (es[j]).cells[k]?
  | e :: es, 0, k, _, hk => by
    rw [List.flatMap_cons, Nat.zero_mul, Nat.zero_add, List.getElem?_append_left (by simp only [El.cells, List.length_cons, List.length_nil]; omega)]
    rfl
  | e :: es, j + 1, k, h, hk => by
    have h6 : e.cells.length = 6 := rfl
    rw [List.flatMap_cons, List.getElem?_append_right (by omega), h6, show (j + 1) * 6 + k - 6 = j * 6 + k by omega]
    exact flat6 es j k (by simpa using h) hk
/-- What lies of an attribute's lists in memory. -/
structure ElOK (w : World) (e : El) : Prop where
  ints : IntsAt w e.ai e.a.ints
  texts : StrsAt w e.ao e.a.texts
  icap : e.a.ints.length ≤ e.ci
  tcap : e.a.texts.length ≤ e.ct
  wf : e.a.Wf
theorem ElOK.below {w w' : World} {e : El} (h : ElOK w e) (hb : Below w.heap.size w w') : ElOK w' e := ⟨h.ints.below hb, h.texts.below hb, h.icap, h.tcap, h.wf⟩
theorem els_ok {w : World} {so : Option Addr} {L : List El} (h : ElsAt w so L) : ∀ e ∈ L, ElOK w e := by
  intro e he
  rcases h with rfl | ⟨bk, o, _, hc⟩
  · cases he
  · obtain ⟨j, hj, rfl⟩ := List.getElem_of_mem he
    have h := hc j hj
    exact ⟨h.ints, h.texts, h.icap, h.tcap, h.wf⟩
theorem list_of_own {w : World} {B : Nat} {ao : Option Addr} {c n : Nat} {es : List El} (h : w.ownsRow B 29 6 (.slice ao n c) n (es.flatMap El.cells)) (hn : n = es.length) (hall : ∀ e ∈ es, ElOK w e) : ListAt w ao (es.map (·.a)) ∧ n ≤ c := by
  rcases h.2 with ⟨hv, h0⟩ | ⟨g, cap, cur, hv, _, hg, hcap, _, _, hcur⟩
  · have he : es = [] := List.eq_nil_of_length_eq_zero (by omega)
    subst he
    exact ⟨.inl rfl, by omega⟩
  · injection hv with h1 h2 h3
    subst h1 h3
    refine ⟨.inr ⟨g, 0, rfl, fun j hj => ?_⟩, hcap⟩
    have hj' : j < es.length := by simpa using hj
    have hok := hall es[j] (List.getElem_mem hj')
    have hcl : ∀ k v, k < 6 → (es[j]).cells[k]? = some v → w.cell? ⟨g, 0 + j * 6 + k, none⟩ = some v := fun k v hk hv => by
      have h1 := flat6 es j k hj' hk
      rw [← hcur, List.getElem?_take_of_lt (by omega), hv] at h1
      rw [row_cell hg, Nat.zero_add]
      simpa using h1
    rw [nth_get hj, List.getElem_map]
    exact ⟨(es[j]).ai, (es[j]).ci, (es[j]).ao, (es[j]).ct, ⟨hcl 0 _ (by omega) rfl, hcl 1 _ (by omega) rfl, hcl 2 _ (by omega) rfl, hcl 3 _ (by omega) rfl, hcl 4 _ (by omega) rfl, hcl 5 _ (by omega) rfl, hok.ints, hok.texts, hok.icap, hok.tcap, hok.wf⟩⟩

/-- 'Collect' over the attributes of two lists. -/
theorem collect_any (S S' : Nat) (so so' : Option Addr) (l m : List At) (c c' : Nat) (hl1 : l.length ≤ 1000) (hm1 : m.length ≤ 1000) (w : World)
    (hb : w.heap[S]? = some (.cells #[.slice so l.length c] 22 (0, 0))) (hb' : w.heap[S']? = some (.cells #[.slice so' m.length c'] 22 (0, 0))) (hl : ListAt w so l) (hm : ListAt w so' m) :
    Calls Tryz.prog 43 #[.func (.func 73) #[] #[.pointer (some ⟨S, 0, none⟩), .pointer (some ⟨S', 0, none⟩)]] w
      fun e w' => ∃ (ao : Option Addr) (cc : Nat), e = .returned (.slice ao (mergeL l m).length cc) ∧ (mergeL l m).length ≤ cc ∧ ListAt w' ao (mergeL l m) ∧ (mergeL l m).length ≤ 2000 ∧ (∀ a ∈ mergeL l m, a ∈ l ∨ a ∈ m) ∧ Below w.heap.size w w' := by
  obtain ⟨L, rfl, hel⟩ := els_of_list hl
  obtain ⟨M, rfl, hem⟩ := els_of_list hm
  rw [List.length_map] at hb hb' hl1 hm1
  refine (collectA S S' so so' L M c c' hl1 hm1 w hb hb' hel hem).mono ?_
  rintro e w' ⟨ao, cc, rfl, hown, hbw⟩
  have hlen : (mergeL (L.map (·.a)) (M.map (·.a))).length = (mergeE L M).length := by rw [← mergeE_map, List.length_map]
  obtain ⟨h1, h2⟩ := list_of_own hown rfl (fun e he => by
    rcases mergeE_mem he with h | h
    · exact (els_ok hel e h).below hbw
    · exact (els_ok hem e h).below hbw)
  rw [mergeE_map] at h1
  refine ⟨ao, cc, by rw [hlen], by rw [hlen]; exact h2, h1, by rw [hlen]; have := mergeE_len L M; omega, fun a ha => ?_, hbw⟩
  rw [← mergeE_map] at ha
  obtain ⟨e, he, rfl⟩ := List.mem_map.1 ha
  rcases mergeE_mem he with h | h
  · exact .inl (List.mem_map_of_mem h)
  · exact .inr (List.mem_map_of_mem h)

/-! ### 'Merge' -/
/-- Which error 'Merge' answers, and which list. -/
def mergeErr (l m : List At) : Int := if rightL l && rightL m then (if 100 < (mergeL l m).length then 2 else 0) else 20
def mergeOut (l m : List At) : List At := if mergeErr l m = 0 then mergeL l m else []
theorem mergeErr_bad {l m : List At} (h : (rightL l && rightL m) = false) : mergeErr l m = 20 := by unfold mergeErr; rw [h]; rfl
theorem mergeErr_big {l m : List At} (h : (rightL l && rightL m) = true) (hn : 100 < (mergeL l m).length) : mergeErr l m = 2 := by unfold mergeErr; rw [h, if_pos rfl, if_pos hn]
theorem mergeErr_ok {l m : List At} (h : (rightL l && rightL m) = true) (hn : ¬ 100 < (mergeL l m).length) : mergeErr l m = 0 := by unfold mergeErr; rw [h, if_pos rfl, if_neg hn]
theorem mergeOut_ok {l m : List At} (h : mergeErr l m = 0) : mergeOut l m = mergeL l m := if_pos h
theorem mergeOut_no {l m : List At} (h : mergeErr l m ≠ 0) : mergeOut l m = [] := if_neg h
/-- What 'Merge' answers. -/
def MergePost (l m : List At) (w : World) (e : Ending) (w' : World) : Prop := ∃ (ao : Option Addr) (cc : Nat), e = .returned (.tuple #[.slice ao (mergeOut l m).length cc, .int .i64 (mergeErr l m)]) ∧ cc = (mergeOut l m).length ∧ ListAt w' ao (mergeOut l m) ∧ Below w.heap.size w w'
theorem merge_bad {l m : List At} {w w' : World} (he : mergeErr l m ≠ 0) {z : Int} (hz : mergeErr l m = z) (hb : Below w.heap.size w w') : MergePost l m w (.returned (.tuple #[.slice none 0 0, .int .i64 z])) w' := by
  refine ⟨none, 0, by rw [mergeOut_no he, hz]; rfl, by rw [mergeOut_no he]; rfl, by rw [mergeOut_no he]; exact .inl rfl, hb⟩

set_option maxHeartbeats 4000000 in
set_option maxRecDepth 100000 in
theorem Merge_any (so so' : Option Addr) (l m : List At) (c c' : Nat) (hn : l.length ≤ 9223372036854775807) (hn' : m.length ≤ 9223372036854775807) (w : World) (hl : ListAt w so l) (hm : ListAt w so' m) (hE : Env w) :
    Calls Tryz.prog 24 #[.slice so l.length c, .slice so' m.length c'] w (MergePost l m w) := by
  have HE := Lib.hid hE
  have HL := Lib.hid hl
  have HM := Lib.hid hm
  clear hE hl hm
  go_enter Tryz.func24, Tryz.ntmps24
  go_wp2_with fail
  refine (isRightList_any so l c hn w HL.out HE.out).mono ?_
  rintro e w1 ⟨rfl, hb⟩
  have B1 := Lib.hid hb
  clear hb
  cases hr : rightL l with
  | false =>
    have h20 := Lib.hid (mergeErr_bad (l := l) (m := m) (by rw [hr]; rfl))
    go_wp2_with fail
    go_ret2
    exact merge_bad (by rw [h20.out]; decide) h20.out B1.out
  | true =>
    have HR := Lib.hid hr
    clear hr
    go_wp2_with fail
    refine (isRightList_any so' m c' hn' w1 (HM.out.below B1.out) (HE.out.below B1.out)).mono ?_
    rintro e w2 ⟨rfl, hb⟩
    have B2 := Lib.hid (B1.out.trans (hb.mono B1.out.size))
    clear hb B1
    cases hr : rightL m with
    | false =>
      have h20 := Lib.hid (mergeErr_bad (l := l) (m := m) (by rw [hr, Bool.and_false]))
      go_wp2_with fail
      go_ret2
      exact merge_bad (by rw [h20.out]; decide) h20.out B2.out
    | true =>
      have HR2 := Lib.hid hr
      have hrr := Lib.hid (show (rightL l && rightL m) = true from by rw [HR.out, hr]; rfl)
      clear hr
      have hl100 : l.length ≤ 1000 := Nat.le_trans ((rightL_iff l).1 HR.out).1 (by decide)
      have hm100 : m.length ≤ 1000 := Nat.le_trans ((rightL_iff m).1 HR2.out).1 (by decide)
      go_wp2_with fail
      refine (united_any so so' l.length m.length c c' w2).mono ?_
      rintro e w3 ⟨rfl, hs1, hs2, hb⟩
      have B3 := Lib.hid (B2.out.trans (hb.mono B2.out.size))
      have HS1 := Lib.hid hs1
      have HS2 := Lib.hid hs2
      clear hb hs1 hs2 B2
      go_wp2_with fail
      refine (collect_any _ _ so so' l m c c' hl100 hm100 w3 HS1.out HS2.out (HL.out.below B3.out) (HM.out.below B3.out)).mono ?_
      rintro e w4 ⟨ao, cc, rfl, hcap, hlist, h2000, hmem, hb⟩
      have B4 := Lib.hid (B3.out.trans (hb.mono B3.out.size))
      have HLI := Lib.hid hlist
      have HCAP := Lib.hid hcap
      have HLEN := Lib.hid (show ∀ a ∈ mergeL l m, a.ints.length ≤ 1000 ∧ a.texts.length ≤ 1000 from fun a ha => (hmem a ha).elim (fun h => right_lens (rightL_all HR.out a h)) (fun h => right_lens (rightL_all HR2.out a h)))
      have HBIG := Lib.hid (fun h => mergeErr_big (l := l) (m := m) hrr.out h)
      have HOK := Lib.hid (fun h => mergeErr_ok (l := l) (m := m) hrr.out h)
      have HOUT := Lib.hid (fun h => mergeOut_ok (l := l) (m := m) h)
      clear hb hlist hcap hmem HS1 HS2 B3 hl100 hm100
      generalize hml : mergeL l m = ml at HLI HCAP HLEN HBIG HOK HOUT h2000 ⊢
      have HML := Lib.hid hml
      clear hml
      by_cases hbig : 100 < ml.length
      · have h2 := Lib.hid (HBIG.out hbig)
        have hbi : (100 : Int) < (ml.length : Int) := by omega
        go_wp2_with fail
        go_ret2
        exact merge_bad (by rw [h2.out]; decide) h2.out B4.out
      · have h0 := Lib.hid (HOK.out hbig)
        have ho := Lib.hid (HOUT.out h0.out)
        have hbi : ¬ (100 : Int) < (ml.length : Int) := by omega
        go_wp2_with fail
        refine (copiedList_cap ao ml cc (by omega) HLEN.out w4 HLI.out).mono ?_
        rintro e w5 ⟨so5, rfl, hl5, hb⟩
        have B5 := Lib.hid (B4.out.trans (hb.mono B4.out.size))
        have HL5 := Lib.hid hl5
        clear hb hl5
        go_wp2_with fail
        go_ret2
        unfold MergePost
        rw [h0.out, ho.out]
        exact ⟨so5, ml.length, rfl, rfl, HL5.out, B5.out⟩

/-- 'Set' by its contract: 'Merge' with the one attribute. -/
theorem els_one {w : World} {a : At} {ai : Option Addr} {ci : Nat} {ao : Option Addr} {ct : Nat} {v : Value} (h : AttAt w a v ai ci ao ct) {b : Nat} {T : TypeId}
    (hb : w.heap[b]? = some (.cells #[.string a.name, .int .i64 a.kind, .int .i64 a.num, .string a.text, .slice ai a.ints.length ci, .slice ao a.texts.length ct] T (0, 0))) : ListAt w (some ⟨b, 0, none⟩) [a] := by
  refine .inr ⟨b, 0, rfl, fun j hj => ?_⟩
  have hj0 : j = 0 := by simpa using hj
  subst hj0
  have hc : ∀ k v, #[Value.string a.name, .int .i64 a.kind, .int .i64 a.num, .string a.text, .slice ai a.ints.length ci, .slice ao a.texts.length ct][k]? = some v → w.cell? ⟨b, 0 + 0 * 6 + k, none⟩ = some v := fun k v hv => by
    rw [row_cell hb, show 0 + 0 * 6 + k = k by omega]
    exact hv
  exact ⟨ai, ci, ao, ct, ⟨hc 0 _ rfl, hc 1 _ rfl, hc 2 _ rfl, hc 3 _ rfl, hc 4 _ rfl, hc 5 _ rfl, h.ints, h.texts, h.icap, h.tcap, h.wf⟩⟩

set_option maxHeartbeats 1000000 in
set_option maxRecDepth 100000 in
theorem Set_any (so : Option Addr) (l : List At) (c : Nat) (a : At) (v : Value) (ai : Option Addr) (ci : Nat) (ao : Option Addr) (ct : Nat) (hn : l.length ≤ 9223372036854775807) (w : World) (hl : ListAt w so l) (ha : AttAt w a v ai ci ao ct) (hE : Env w) :
    Calls Tryz.prog 21 #[.slice so l.length c, v] w (MergePost l [a] w) := by
  have HE := Lib.hid hE
  have HL := Lib.hid hl
  have HA := Lib.hid ha
  have hv := ha.val
  clear hE hl ha
  subst hv
  have B0 := Lib.hid (alloc_below w (.cells #[.string a.name, .int .i64 a.kind, .int .i64 a.num, .string a.text, .slice ai a.ints.length ci, .slice ao a.texts.length ct] 29))
  have T0 := Lib.hid (heap_alloc_new w (.cells #[.string a.name, .int .i64 a.kind, .int .i64 a.num, .string a.text, .slice ai a.ints.length ci, .slice ao a.texts.length ct] 29))
  go_enter Tryz.func21, Tryz.ntmps21
  go_upto_region 1 with fail
  generalize w.alloc (.cells #[.string a.name, .int .i64 a.kind, .int .i64 a.num, .string a.text, .slice ai a.ints.length ci, .slice ao a.texts.length ct] 29) = W0 at B0 T0 ⊢
  generalize hs : w.heap.size = S at B0 T0 ⊢
  have Hs := Lib.hid hs
  clear hs
  obtain ⟨c0, c1, c2, c3, c4, c5, cf⟩ := cells6 T0.out
  have T1 := Lib.hid (heap_alloc_new W0 (.cells #[.string a.name, .int .i64 a.kind, .int .i64 a.num, .string a.text, .slice ai a.ints.length ci, .slice ao a.texts.length ct] 29))
  have B1 := Lib.hid (B0.out.trans ((alloc_below W0 (.cells #[.string a.name, .int .i64 a.kind, .int .i64 a.num, .string a.text, .slice ai a.ints.length ci, .slice ao a.texts.length ct] 29)).mono (by have := lt_of_block T0.out; omega)))
  have HB1 : Hid (Below w.heap.size w (W0.alloc (.cells #[.string a.name, .int .i64 a.kind, .int .i64 a.num, .string a.text, .slice ai a.ints.length ci, .slice ao a.texts.length ct] 29))) := by
    show Below _ _ _
    rw [Hs.out]
    exact B1.out
  go_wp2_with fail
  refine (Merge_any so (some ⟨W0.heap.size, 0, none⟩) l [a] c 1 hn (by simp) _ (HL.out.below HB1.out) (els_one (HA.out.below HB1.out) T1.out) (HE.out.below HB1.out)).mono ?_
  rintro e w2 ⟨so2, c2', rfl, hc2, hl2, hb⟩
  have B2 := Lib.hid (HB1.out.trans (hb.mono HB1.out.size))
  have HL2 := Lib.hid hl2
  have HC2 := Lib.hid hc2
  clear hc2 hl2 hb
  generalize hml : mergeOut l [a] = ml at HL2 HC2 ⊢
  generalize hmz : mergeErr l [a] = mz
  have HML := Lib.hid hml
  have HMZ := Lib.hid hmz
  clear hml hmz c0 c1 c2 c3 c4 c5 cf
  go_wp2_with fail
  go_ret2
  unfold MergePost
  rw [HML.out, HMZ.out]
  exact ⟨so2, c2', rfl, HC2.out, HL2.out, B2.out⟩
end Go.Proofs.YtiofnjnaleglgaaGreatDoor

/-
  The order of names; lists that rise; what 'Merge' makes of one attribute.
-/
namespace Go.Proofs.YtiofnjnaleglgaaGreatDoor
open Go.RowKit

/-! ### The order of strings of bytes -/
theorem u8_three (a b : UInt8) : a < b ∨ a = b ∨ b < a := by
  rcases Nat.lt_trichotomy a.toNat b.toNat with h | h | h
  · exact .inl (UInt8.lt_iff_toNat_lt.2 h)
  · exact .inr (.inl (UInt8.toNat_inj.1 h))
  · exact .inr (.inr (UInt8.lt_iff_toNat_lt.2 h))
theorem u8_asymm {a b : UInt8} (h : a < b) : ¬ b < a := fun k => by
  have h1 := UInt8.lt_iff_toNat_lt.1 h
  have h2 := UInt8.lt_iff_toNat_lt.1 k
  omega
theorem u8_trans {a b c : UInt8} (h : a < b) (k : b < c) : a < c := by
  have h1 := UInt8.lt_iff_toNat_lt.1 h
  have h2 := UInt8.lt_iff_toNat_lt.1 k
  exact UInt8.lt_iff_toNat_lt.2 (by omega)
theorem less_cons (a b : UInt8) (x y : List UInt8) : Op.bytesLess (a :: x) (b :: y) = true ↔ a < b ∨ (a = b ∧ Op.bytesLess x y = true) := by
  rw [Op.bytesLess, Bool.or_eq_true, Bool.and_eq_true, decide_eq_true_iff, beq_iff_eq]
theorem cmpB_lt : ∀ a b : List UInt8, Lib.compareBytes a b < 0 ↔ Op.bytesLess a b = true
  | [], [] => by rw [Lib.compareBytes, Op.bytesLess]; decide
  | [], _ :: _ => by rw [Lib.compareBytes, Op.bytesLess]; decide
  | _ :: _, [] => by rw [Lib.compareBytes, Op.bytesLess]; decide
  | a :: x, b :: y => by
    rw [less_cons, Lib.compareBytes]
    rcases u8_three a b with h | rfl | h
    · rw [if_pos h]; exact ⟨fun _ => .inl h, fun _ => by decide⟩
    · rw [if_neg (fun h => u8_asymm h h), if_neg (fun h => u8_asymm h h), cmpB_lt x y]
      exact ⟨fun h => .inr ⟨rfl, h⟩, fun h => h.elim (fun h => absurd h (u8_asymm h)) (·.2)⟩
    · rw [if_neg (u8_asymm h), if_pos h]
      exact ⟨fun h => absurd h (by decide), fun k => k.elim (fun k => absurd h (u8_asymm k)) (fun k => absurd (k.1 ▸ h) (fun h => u8_asymm h h))⟩
theorem cmpB_gt : ∀ a b : List UInt8, 0 < Lib.compareBytes a b ↔ Op.bytesLess b a = true
  | [], [] => by rw [Lib.compareBytes, Op.bytesLess]; decide
  | [], _ :: _ => by rw [Lib.compareBytes, Op.bytesLess]; decide
  | _ :: _, [] => by rw [Lib.compareBytes, Op.bytesLess]; decide
  | a :: x, b :: y => by
    rw [less_cons, Lib.compareBytes]
    rcases u8_three a b with h | rfl | h
    · rw [if_pos h]
      exact ⟨fun h => absurd h (by decide), fun k => k.elim (fun k => absurd h (u8_asymm k)) (fun k => absurd (k.1 ▸ h) (fun h => u8_asymm h h))⟩
    · rw [if_neg (fun h => u8_asymm h h), if_neg (fun h => u8_asymm h h), cmpB_gt x y]
      exact ⟨fun h => .inr ⟨rfl, h⟩, fun h => h.elim (fun h => absurd h (u8_asymm h)) (·.2)⟩
    · rw [if_neg (u8_asymm h), if_pos h]; exact ⟨fun _ => .inl h, fun _ => by decide⟩
theorem cmpB_eq : ∀ a b : List UInt8, Lib.compareBytes a b = 0 ↔ a = b
  | [], [] => by rw [Lib.compareBytes]; simp
  | [], _ :: _ => by rw [Lib.compareBytes]; simp
  | _ :: _, [] => by rw [Lib.compareBytes]; simp
  | a :: x, b :: y => by
    rw [Lib.compareBytes]
    rcases u8_three a b with h | rfl | h
    · rw [if_pos h]
      exact ⟨fun h => absurd h (by decide), fun k => by injection k with k; exact absurd (k ▸ h) (fun h => u8_asymm h h)⟩
    · rw [if_neg (fun h => u8_asymm h h), if_neg (fun h => u8_asymm h h), cmpB_eq x y]
      exact ⟨fun h => by rw [h], fun h => by injection h⟩
    · rw [if_neg (u8_asymm h), if_pos h]
      exact ⟨fun h => absurd h (by decide), fun k => by injection k with k; exact absurd (k ▸ h) (fun h => u8_asymm h h)⟩
theorem less_trans : ∀ {a b c : List UInt8}, Op.bytesLess a b = true → Op.bytesLess b c = true → Op.bytesLess a c = true
  | _, [], _, h, _ => by rw [Op.bytesLess.eq_def] at h; simp at h
  | _, _ :: _, [], _, h => by rw [Op.bytesLess] at h; cases h
  | [], _ :: _, _ :: _, _, _ => by rw [Op.bytesLess]
  | a :: x, b :: y, c :: z, h, k => by
    rw [less_cons] at h k ⊢
    rcases h with h | ⟨rfl, h⟩
    · rcases k with k | ⟨rfl, k⟩
      · exact .inl (u8_trans h k)
      · exact .inl h
    · rcases k with k | ⟨rfl, k⟩
      · exact .inl k
      · exact .inr ⟨rfl, less_trans h k⟩

theorem lessB_iff (a b : ByteArray) : lessB a b = true ↔ Lib.compareBytes a.data.toList b.data.toList < 0 := by
  unfold lessB
  rw [ByteArray.toList_eq, ByteArray.toList_eq, cmpB_lt]
theorem lessB_trans {a b c : ByteArray} (h : lessB a b = true) (k : lessB b c = true) : lessB a c = true := less_trans h k
theorem cmpA_lt {x y : At} : cmpA x y < 0 ↔ lessB x.name y.name = true := (lessB_iff _ _).symm
theorem cmpA_gt {x y : At} : 0 < cmpA x y ↔ lessB y.name x.name = true := by
  unfold cmpA
  rw [cmpB_gt, ← cmpB_lt, lessB_iff]
theorem cmpA_eq {x y : At} : cmpA x y = 0 ↔ x.name = y.name := by
  unfold cmpA
  rw [cmpB_eq]
  exact ⟨bytes_inj, fun h => by rw [h]⟩
theorem lessB_irrefl (a : ByteArray) : lessB a a = false := by
  cases h : lessB a a with
  | false => rfl
  | true =>
    have h1 := (lessB_iff a a).1 h
    have h2 := (cmpB_eq a.data.toList a.data.toList).2 rfl
    omega

/-! ### Lists that rise -/
def Rise : List At → Prop
  | [] => True
  | x :: l => (∀ y ∈ l, lessB x.name y.name = true) ∧ Rise l
theorem rise_of_good : ∀ l : List At, (∀ j, j < l.length → goodAt l j = true) → (∀ a ∈ l, rightB a = true) ∧ Rise l
  | [], _ => ⟨fun _ h => (by cases h), trivial⟩
  | x :: l, h => by
    have hx : rightB x = true := by
      have := h 0 (by simp)
      unfold goodAt at this
      rw [Bool.and_eq_true] at this
      exact this.1
    have hl : ∀ j, j < l.length → goodAt l j = true := fun j hj => by
      have := h (j + 1) (by simpa using hj)
      unfold goodAt at this ⊢
      rw [Bool.and_eq_true] at this ⊢
      refine ⟨this.1, ?_⟩
      cases j with
      | zero => rfl
      | succ j => exact this.2
    obtain ⟨h1, h2⟩ := rise_of_good l hl
    refine ⟨fun a ha => (List.mem_cons.1 ha).elim (fun e => e ▸ hx) (h1 a), ?_, h2⟩
    cases l with
    | nil => exact fun y hy => by cases hy
    | cons y l =>
      have hxy : lessB x.name y.name = true := by
        have := h 1 (by simp)
        unfold goodAt at this
        rw [Bool.and_eq_true] at this
        exact this.2
      intro z hz
      rcases List.mem_cons.1 hz with rfl | hz
      · exact hxy
      · exact lessB_trans hxy (h2.1 z hz)
theorem good_of_rise : ∀ l : List At, (∀ a ∈ l, rightB a = true) → Rise l → ∀ j, j < l.length → goodAt l j = true
  | [], _, _, j, hj => absurd hj (Nat.not_lt_zero _)
  | x :: l, h, hr, j, hj => by
    unfold goodAt
    rw [Bool.and_eq_true]
    cases j with
    | zero => exact ⟨h x (List.mem_cons_self ..), rfl⟩
    | succ j =>
      have hj' : j < l.length := by simpa using hj
      have ih := good_of_rise l (fun a ha => h a (List.mem_cons_of_mem _ ha)) hr.2 j hj'
      unfold goodAt at ih
      rw [Bool.and_eq_true] at ih
      refine ⟨ih.1, ?_⟩
      cases j with
      | zero =>
        show lessB x.name (nth l 0).name = true
        rw [nth_get hj']
        exact hr.1 _ (List.getElem_mem hj')
      | succ j => exact ih.2
theorem rightL_rise (l : List At) : rightL l = true ↔ l.length ≤ 100 ∧ (∀ a ∈ l, rightB a = true) ∧ Rise l := by
  rw [rightL_iff]
  exact ⟨fun h => ⟨h.1, rise_of_good l h.2⟩, fun h => ⟨h.1, good_of_rise l h.2.1 h.2.2⟩⟩

theorem mergeL_self : ∀ l : List At, mergeL l l = l
  | [] => mergeL_nil []
  | x :: l => by rw [mergeL_eq (cmpA_eq.2 rfl), mergeL_self l]

/-! ### One attribute more -/
section
variable {a x : At} {l : List At}
theorem one_nil : mergeL [] [a] = [a] := mergeL_nil _
theorem one_lt (h : cmpA x a < 0) : mergeL (x :: l) [a] = x :: mergeL l [a] := mergeL_lt h
theorem one_gt (h : 0 < cmpA x a) : mergeL (x :: l) [a] = a :: x :: l := by rw [mergeL_gt h, mergeL_nil_r]
theorem one_eq (h : cmpA x a = 0) : mergeL (x :: l) [a] = a :: l := by rw [mergeL_eq h, mergeL_nil_r]
end
theorem three (x a : At) : cmpA x a < 0 ∨ cmpA x a = 0 ∨ 0 < cmpA x a := by omega
theorem one_mem {a y : At} : ∀ {l : List At}, y ∈ mergeL l [a] → y = a ∨ y ∈ l
  | [], h => by rw [one_nil] at h; exact .inl (by simpa using h)
  | x :: l, h => by
    rcases three x a with hc | hc | hc
    · rw [one_lt hc] at h
      rcases List.mem_cons.1 h with rfl | h
      · exact .inr (List.mem_cons_self ..)
      · exact (one_mem h).imp_right (List.mem_cons_of_mem _)
    · rw [one_eq hc] at h
      exact (List.mem_cons.1 h).imp_right (List.mem_cons_of_mem _)
    · rw [one_gt hc] at h
      exact List.mem_cons.1 h
theorem one_rise {a : At} : ∀ {l : List At}, Rise l → Rise (mergeL l [a])
  | [], _ => by rw [one_nil]; exact ⟨fun _ h => (by cases h), trivial⟩
  | x :: l, h => by
    rcases three x a with hc | hc | hc
    · rw [one_lt hc]
      refine ⟨fun y hy => ?_, one_rise h.2⟩
      rcases one_mem hy with rfl | hy
      · exact cmpA_lt.1 hc
      · exact h.1 y hy
    · rw [one_eq hc]
      exact ⟨fun y hy => cmpA_eq.1 hc ▸ h.1 y hy, h.2⟩
    · rw [one_gt hc]
      refine ⟨fun y hy => ?_, h⟩
      rcases List.mem_cons.1 hy with rfl | hy
      · exact cmpA_gt.1 hc
      · exact lessB_trans (cmpA_gt.1 hc) (h.1 y hy)
theorem one_right {a : At} {l : List At} (hl : rightL l = true) (ha : rightB a = true) (hn : (mergeL l [a]).length ≤ 100) : rightL (mergeL l [a]) = true := by
  obtain ⟨_, h1, h2⟩ := (rightL_rise l).1 hl
  exact (rightL_rise _).2 ⟨hn, fun y hy => (one_mem hy).elim (fun e => e ▸ ha) (h1 y), one_rise h2⟩
theorem pos_cons (x : At) (l : List At) (nm : ByteArray) : posL (x :: l) nm = if x.name = nm then 0 else posL l nm + 1 := by
  unfold posL
  rw [List.findIdx_cons]
  by_cases h : x.name = nm <;> simp [h]
/-- The attribute that was set stands there. -/
theorem one_pos {a : At} : ∀ l : List At, posL (mergeL l [a]) a.name < (mergeL l [a]).length ∧ nth (mergeL l [a]) (posL (mergeL l [a]) a.name) = a
  | [] => by
    rw [one_nil, pos_cons, if_pos rfl]
    exact ⟨by simp, rfl⟩
  | x :: l => by
    rcases three x a with hc | hc | hc
    · rw [one_lt hc, pos_cons, if_neg (fun e => by have := cmpA_eq.2 e; omega)]
      obtain ⟨h1, h2⟩ := one_pos (a := a) l
      exact ⟨by simpa using h1, h2⟩
    · rw [one_eq hc, pos_cons, if_pos rfl]
      exact ⟨by simp, rfl⟩
    · rw [one_gt hc, pos_cons, if_pos rfl]
      exact ⟨by simp, rfl⟩
theorem pos_none_iff (nm : ByteArray) : ∀ l : List At, ¬ posL l nm < l.length ↔ ∀ y ∈ l, y.name ≠ nm
  | [] => by simp [posL]
  | x :: l => by
    rw [pos_cons]
    by_cases h : x.name = nm
    · rw [if_pos h]
      exact ⟨fun k => absurd (by simp) k, fun k => absurd h (k x (List.mem_cons_self ..))⟩
    · rw [if_neg h]
      have ih := pos_none_iff nm l
      constructor
      · intro k y hy
        rcases List.mem_cons.1 hy with rfl | hy
        · exact h
        · exact ih.1 (fun e => k (by simpa using e)) y hy
      · intro k e
        exact ih.2 (fun y hy => k y (List.mem_cons_of_mem _ hy)) (by simpa using e)
/-- A name that was there: as many as before. -/
theorem one_same {a : At} : ∀ {l : List At}, Rise l → posL l a.name < l.length → (mergeL l [a]).length = l.length
  | [], _, h => absurd h (Nat.not_lt_zero _)
  | x :: l, hr, h => by
    rcases three x a with hc | hc | hc
    · rw [pos_cons, if_neg (fun e => by have := cmpA_eq.2 e; omega)] at h
      rw [one_lt hc, List.length_cons, List.length_cons, one_same hr.2 (by simpa using h)]
    · rw [one_eq hc]; rfl
    · refine absurd h ((pos_none_iff _ _).2 fun y hy e => ?_)
      have hxa := cmpA_gt.1 hc
      rcases List.mem_cons.1 hy with rfl | hy
      · rw [e, lessB_irrefl] at hxa; cases hxa
      · have := lessB_trans hxa (hr.1 y hy)
        rw [e, lessB_irrefl] at this; cases this
/-- A new name: without it, the list. -/
theorem one_erase {a : At} : ∀ {l : List At}, ¬ posL l a.name < l.length → (mergeL l [a]).eraseIdx (posL (mergeL l [a]) a.name) = l
  | [], _ => by rw [one_nil, pos_cons, if_pos rfl]; rfl
  | x :: l, h => by
    have hall := (pos_none_iff _ _).1 h
    have hx := hall x (List.mem_cons_self ..)
    rcases three x a with hc | hc | hc
    · rw [one_lt hc, pos_cons, if_neg hx, List.eraseIdx_cons_succ, one_erase ((pos_none_iff _ _).2 fun y hy => hall y (List.mem_cons_of_mem _ hy))]
    · exact absurd (cmpA_eq.1 hc) hx
    · rw [one_gt hc, pos_cons, if_pos rfl]; rfl
end Go.Proofs.YtiofnjnaleglgaaGreatDoor

