/-
  Texts of mine in one file: AtCA.
-/
import Derived.Test.YtiofnjnaleglgaaGreatDoorG30
import Derived.Deep.RegionHeld3
import Derived.Deep.Cut
import Derived.Deep.DeepCutAuto
import Derived.BigRegion
/-
  'Cmp' by its contract.
-/
namespace Go.Proofs.YtiofnjnaleglgaaGreatDoor
open Go.RowKit Go.Shelf

def kcmp (a b : Int) : Int := if a < b then -1 else if b < a then 1 else 0
theorem isNaN_any (a : Int) (w : World) : Calls Tryz.prog 76 #[.int .i64 a] w fun e w' => e = .returned (.bool false) ∧ w = w' := by
  go_enter Tryz.func76, Tryz.ntmps76
  go_wp2_with fail
  go_ret
  exact ⟨by simp, rfl⟩
theorem kindCompare_any (a b : Int) (w : World) : Calls Tryz.prog 50 #[.int .i64 a, .int .i64 b] w fun e w' => e = .returned (.int .i64 (kcmp a b)) ∧ w = w' := by
  go_enter Tryz.func50, Tryz.ntmps50
  go_wp2_with fail
  refine (isNaN_any a _).mono ?_
  rintro e w1 ⟨rfl, rfl⟩
  go_wp2_with fail
  refine (isNaN_any b _).mono ?_
  rintro e w1 ⟨rfl, rfl⟩
  rcases Int.lt_trichotomy a b with h | h | h
  · have hp := Lib.hid (show kcmp a b = -1 from if_pos h)
    go_wp2_with fail
    go_ret
    exact ⟨by rw [hp.out]; rfl, rfl⟩
  · subst h
    have hp := Lib.hid (show kcmp a a = 0 from by unfold kcmp; rw [if_neg (Int.lt_irrefl a), if_neg (Int.lt_irrefl a)])
    have h2 : ¬ a < a := Int.lt_irrefl a
    go_wp2_with fail
    go_ret
    exact ⟨by rw [hp.out]; rfl, rfl⟩
  · have h2 : ¬ a < b := by omega
    have hp := Lib.hid (show kcmp a b = 1 from by unfold kcmp; rw [if_neg h2, if_pos h])
    go_wp2_with fail
    go_ret
    exact ⟨by rw [hp.out]; rfl, rfl⟩

/-- The first number that is not 0. -/
def orL (x y z : Int) : Int := if x = 0 then (if y = 0 then z else y) else x
theorem or3_any (x y z : Int) (b : Nat) (T : TypeId) (w : World) (h : w.heap[b]? = some (.cells #[.int .i64 x, .int .i64 y, .int .i64 z] T (0, 0))) :
    Calls Tryz.prog 48 #[.slice (some ⟨b, 0, none⟩) 3 3] w fun e w' => e = .returned (.int .i64 (orL x y z)) ∧ w = w' := by
  have c0 : w.cell? ⟨b, 0, none⟩ = some (.int .i64 x) := cell_of_row w b 0 _ _ _ h
  have c1 : w.cell? ⟨b, 1, none⟩ = some (.int .i64 y) := cell_of_row w b 1 _ _ _ h
  have c2 : w.cell? ⟨b, 2, none⟩ = some (.int .i64 z) := cell_of_row w b 2 _ _ _ h
  clear h
  go_enter Tryz.func48, Tryz.ntmps48
  go_wp2_with fail
  go_loopw [8] (fun i wr => ∃ q : Nat, q ≤ 3 ∧ i = .int .i64 q ∧ Hid (w = wr ∧ (1 ≤ q → x = 0) ∧ (2 ≤ q → y = 0) ∧ (3 ≤ q → z = 0))) (fun i _ => 3 - (intOf i).toNat)
  case atStart => exact ⟨0, Nat.zero_le _, rfl, rfl, fun h => by omega, fun h => by omega, fun h => by omega⟩
  case round =>
    obtain ⟨q, hq, rfl, hh⟩ := hrel
    obtain rfl : w = wr := hh.out.1
    rcases (show q = 0 ∨ q = 1 ∨ q = 2 ∨ q = 3 by omega) with rfl | rfl | rfl | rfl
    · by_cases hx : x = 0
      · have hr := Lib.hid hx
        go_wp2_with fail
        go_roundw
        · exact ⟨1, by omega, rfl, (by first | rfl | trivial), fun _ => hr.out, fun h => by omega, fun h => by omega⟩
        · simp [intOf]
      · have hp := Lib.hid (show orL x y z = x from if_neg hx)
        go_wp2_with fail
        go_ret
        exact ⟨by rw [hp.out]; rfl, rfl⟩
    · by_cases hx : y = 0
      · have hr := Lib.hid hx
        go_wp2_with fail
        go_roundw
        · exact ⟨2, by omega, rfl, (by first | rfl | trivial), fun _ => hh.out.2.1 (by omega), fun _ => hr.out, fun h => by omega⟩
        · simp [intOf]
      · have hp := Lib.hid (show orL x y z = y from by unfold orL; rw [if_pos (hh.out.2.1 (by omega)), if_neg hx])
        go_wp2_with fail
        go_ret
        exact ⟨by rw [hp.out]; rfl, rfl⟩
    · by_cases hx : z = 0
      · have hr := Lib.hid hx
        go_wp2_with fail
        go_roundw
        · exact ⟨3, by omega, rfl, (by first | rfl | trivial), fun _ => hh.out.2.1 (by omega), fun _ => hh.out.2.2.1 (by omega), fun _ => hr.out⟩
        · simp [intOf]
      · have hp := Lib.hid (show orL x y z = z from by unfold orL; rw [if_pos (hh.out.2.1 (by omega)), if_pos (hh.out.2.2.1 (by omega))])
        go_wp2_with fail
        go_ret
        exact ⟨by rw [hp.out]; rfl, rfl⟩
    · have hp := Lib.hid (show orL x y z = 0 from by unfold orL; rw [if_pos (hh.out.2.1 (by omega)), if_pos (hh.out.2.2.1 (by omega)), hh.out.2.2.2 (by omega)])
      go_wp2_with fail
      go_ret
      exact ⟨by rw [hp.out]; rfl, rfl⟩

/-- What 'Cmp' answers. -/
def cmpL (a b : At) : Int := orL (Lib.compareBytes a.name.data.toList b.name.data.toList) (kcmp a.kind b.kind) (Lib.compareBytes (valueL a) (valueL b))
def cmpErr (a b : At) : Int := if rightB a && rightB b then 0 else 20
def cmpOut (a b : At) : Int := if rightB a && rightB b then cmpL a b else 0
theorem cmp_bad {a b : At} (h : (rightB a && rightB b) = false) : cmpErr a b = 20 ∧ cmpOut a b = 0 := by unfold cmpErr cmpOut; rw [h]; exact ⟨rfl, rfl⟩
theorem cmp_good {a b : At} (ha : rightB a = true) (hb : rightB b = true) : cmpErr a b = 0 ∧ cmpOut a b = cmpL a b := by unfold cmpErr cmpOut; rw [ha, hb]; exact ⟨rfl, rfl⟩

/-- Both attributes lie in their variables. -/
def CmpS (V : World) (p q : Nat) (v0 v1 v2 v3 v4 v5 u0 u1 u2 u3 u4 u5 : Value) (w' : World) : Prop := w'.cell? ⟨p, 0, none⟩ = some v0 ∧ w'.cell? ⟨p, 1, none⟩ = some v1 ∧ w'.cell? ⟨p, 2, none⟩ = some v2 ∧ w'.cell? ⟨p, 3, none⟩ = some v3 ∧ w'.cell? ⟨p, 4, none⟩ = some v4 ∧ w'.cell? ⟨p, 5, none⟩ = some v5 ∧ w'.cell? ⟨q, 0, none⟩ = some u0 ∧ w'.cell? ⟨q, 1, none⟩ = some u1 ∧ w'.cell? ⟨q, 2, none⟩ = some u2 ∧ w'.cell? ⟨q, 3, none⟩ = some u3 ∧ w'.cell? ⟨q, 4, none⟩ = some u4 ∧ w'.cell? ⟨q, 5, none⟩ = some u5 ∧ Hid (Below V.heap.size V w')
section
variable {V : World} {p q : Nat} {v0 v1 v2 v3 v4 v5 u0 u1 u2 u3 u4 u5 : Value}
theorem CmpS.step {X Y : World} (h : CmpS V p q v0 v1 v2 v3 v4 v5 u0 u1 u2 u3 u4 u5 X) (hb : Below X.heap.size X Y) : CmpS V p q v0 v1 v2 v3 v4 v5 u0 u1 u2 u3 u4 u5 Y := by
  obtain ⟨h0, h1, h2, h3, h4, h5, k0, k1, k2, k3, k4, k5, hB⟩ := h
  have hc : ∀ {x : Addr} {v : Value}, X.cell? x = some v → Y.cell? x = some v := fun hx => (hb.cell (block_lt_of_cell hx)).trans hx
  exact ⟨hc h0, hc h1, hc h2, hc h3, hc h4, hc h5, hc k0, hc k1, hc k2, hc k3, hc k4, hc k5, hB.out.trans (hb.mono hB.out.size)⟩
theorem CmpS.below {X : World} (h : CmpS V p q v0 v1 v2 v3 v4 v5 u0 u1 u2 u3 u4 u5 X) : Below V.heap.size V X := h.2.2.2.2.2.2.2.2.2.2.2.2
end
theorem two_new (W : World) (o o' : Obj) : ((W.alloc o).alloc o').drew.heap[W.heap.size]? = some o ∧ ((W.alloc o).alloc o').drew.heap[W.heap.size + 1]? = some o' ∧ Below W.heap.size W ((W.alloc o).alloc o').drew := by
  refine ⟨?_, ?_, (((Below.refl _ W).alloc (Nat.le_refl _) _).alloc (by simp) _).drew⟩
  · show ((W.alloc o).alloc o').heap[W.heap.size]? = some o
    exact (Below.heap_alloc _ _ _ (by simp)).trans (heap_alloc_new _ _)
  · have := heap_alloc_new (W.alloc o) o'
    show ((W.alloc o).alloc o').heap[W.heap.size + 1]? = some o'
    simpa using this

set_option maxHeartbeats 4000000 in
set_option maxRecDepth 100000 in
theorem Cmp_any (a b : At) (va vb : Value) (ai : Option Addr) (ci : Nat) (ao : Option Addr) (ct : Nat) (bi : Option Addr) (bci : Nat) (bo : Option Addr) (bct : Nat) (w : World) (ha : AttAt w a va ai ci ao ct) (hb : AttAt w b vb bi bci bo bct) (hE : Env w) :
    Calls Tryz.prog 27 #[va, vb] w fun e w' => e = .returned (.tuple #[.int .i64 (cmpOut a b), .int .i64 (cmpErr a b)]) ∧ Below w.heap.size w w' := by
  have HE := Lib.hid hE
  have hva := ha.val
  have hvb := hb.val
  have HA := Lib.hid ha
  have HB := Lib.hid hb
  clear ha hb hE
  subst hva hvb
  go_enter Tryz.func27, Tryz.ntmps27
  go_upto_region 1 with fail
  obtain ⟨P0, hP0⟩ : ∃ P0, P0 = w.heap.size := ⟨_, rfl⟩
  obtain ⟨W0, hW0⟩ : ∃ W0, W0 = (w.alloc (.cells #[.string a.name, .int .i64 a.kind, .int .i64 a.num, .string a.text, .slice ai a.ints.length ci, .slice ao a.texts.length ct] 29)).alloc (.cells #[.string b.name, .int .i64 b.kind, .int .i64 b.num, .string b.text, .slice bi b.ints.length bci, .slice bo b.texts.length bct] 29) := ⟨_, rfl⟩
  have TA : Hid (W0.heap[P0]? = some (.cells #[.string a.name, .int .i64 a.kind, .int .i64 a.num, .string a.text, .slice ai a.ints.length ci, .slice ao a.texts.length ct] 29 (0, 0))) := by
    show W0.heap[P0]? = _
    rw [hW0, hP0]
    exact (Below.heap_alloc _ _ _ (by simp)).trans (heap_alloc_new _ _)
  have TB : Hid (W0.heap[P0 + 1]? = some (.cells #[.string b.name, .int .i64 b.kind, .int .i64 b.num, .string b.text, .slice bi b.ints.length bci, .slice bo b.texts.length bct] 29 (0, 0))) := by
    have := heap_alloc_new (w.alloc (.cells #[.string a.name, .int .i64 a.kind, .int .i64 a.num, .string a.text, .slice ai a.ints.length ci, .slice ao a.texts.length ct] 29)) (.cells #[.string b.name, .int .i64 b.kind, .int .i64 b.num, .string b.text, .slice bi b.ints.length bci, .slice bo b.texts.length bct] 29)
    show W0.heap[P0 + 1]? = _
    rw [hW0, hP0]
    simpa using this
  have B0 : Hid (Below w.heap.size w W0) := by
    show Below _ _ _
    rw [hW0]
    exact ((Below.refl _ w).alloc (Nat.le_refl _) _).alloc (by simp) _
  rw [← hW0, ← hP0]
  clear hW0 hP0
  go_cut [6, 7] (fun x y w' => ∃ p q, x = .pointer (some ⟨p, 0, none⟩) ∧ y = .pointer (some ⟨q, 0, none⟩) ∧ Hid (w'.heap[p]? = some (.cells #[.string a.name, .int .i64 a.kind, .int .i64 a.num, .string a.text, .slice ai a.ints.length ci, .slice ao a.texts.length ct] 74 (0, 0)) ∧ w'.heap[q]? = some (.cells #[.string b.name, .int .i64 b.kind, .int .i64 b.num, .string b.text, .slice bi b.ints.length bci, .slice bo b.texts.length bct] 74 (0, 0)) ∧ Below w.heap.size w w'))
  case first =>
    obtain ⟨c0, c1, c2, c3, c4, c5, cf⟩ := cells6 TA.out
    obtain ⟨d0, d1, d2, d3, d4, d5, df⟩ := cells6 TB.out
    have hl0 := lt_of_block TA.out
    have hl1 := lt_of_block TB.out
    have kc : ∀ (o : Obj) (p j : Nat), p < W0.heap.size → (W0.alloc o).cell? ⟨p, j, none⟩ = W0.cell? ⟨p, j, none⟩ := fun o p j hp => World.cell?_of_block (Below.heap_alloc W0 o p hp)
    have kc2 : ∀ (o o' : Obj) (p j : Nat), p < W0.heap.size → ((W0.alloc o).alloc o').cell? ⟨p, j, none⟩ = W0.cell? ⟨p, j, none⟩ := fun o o' p j hp => (World.cell?_of_block (Below.heap_alloc (W0.alloc o) o' p (by simp; omega))).trans (kc o p j hp)
    have e0 := fun o => (kc o P0 0 hl0).trans c0
    have e1 := fun o => (kc o P0 1 hl0).trans c1
    have e2 := fun o => (kc o P0 2 hl0).trans c2
    have e3 := fun o => (kc o P0 3 hl0).trans c3
    have e4 := fun o => (kc o P0 4 hl0).trans c4
    have e5 := fun o => (kc o P0 5 hl0).trans c5
    have g0 := fun o => (kc o (P0 + 1) 0 hl1).trans d0
    have g1 := fun o => (kc o (P0 + 1) 1 hl1).trans d1
    have g2 := fun o => (kc o (P0 + 1) 2 hl1).trans d2
    have g3 := fun o => (kc o (P0 + 1) 3 hl1).trans d3
    have g4 := fun o => (kc o (P0 + 1) 4 hl1).trans d4
    have g5 := fun o => (kc o (P0 + 1) 5 hl1).trans d5
    have m0 := fun o o' => (kc2 o o' P0 0 hl0).trans c0
    have m1 := fun o o' => (kc2 o o' P0 1 hl0).trans c1
    have m2 := fun o o' => (kc2 o o' P0 2 hl0).trans c2
    have m3 := fun o o' => (kc2 o o' P0 3 hl0).trans c3
    have m4 := fun o o' => (kc2 o o' P0 4 hl0).trans c4
    have m5 := fun o o' => (kc2 o o' P0 5 hl0).trans c5
    have n0 := fun o o' => (kc2 o o' (P0 + 1) 0 hl1).trans d0
    have n1 := fun o o' => (kc2 o o' (P0 + 1) 1 hl1).trans d1
    have n2 := fun o o' => (kc2 o o' (P0 + 1) 2 hl1).trans d2
    have n3 := fun o o' => (kc2 o o' (P0 + 1) 3 hl1).trans d3
    have n4 := fun o o' => (kc2 o o' (P0 + 1) 4 hl1).trans d4
    have n5 := fun o o' => (kc2 o o' (P0 + 1) 5 hl1).trans d5
    clear kc kc2 hl0 hl1
    go_region
    all_goals
      go_wp2_with fail
      go_meet
      first
      | exact ⟨_, _, rfl, rfl, (two_new W0 _ _).1, (two_new W0 _ _).2.1, B0.out.trans ((two_new W0 _ _).2.2.mono B0.out.size)⟩
      | exact ⟨_, _, rfl, rfl, (two_new W0 _ _).2.1, (two_new W0 _ _).1, B0.out.trans ((two_new W0 _ _).2.2.mono B0.out.size)⟩
  case rest =>
    obtain ⟨p, q, rfl, rfl, hh⟩ := hcut
    have TP := Lib.hid hh.out.1
    have TQ := Lib.hid hh.out.2.1
    have BW := Lib.hid hh.out.2.2
    clear hh TA TB B0
    obtain ⟨c0, c1, c2, c3, c4, c5, cf⟩ := cells6 TP.out
    go_wp2_with fail
    refine (isRight_any a _ ai ci ao ct wc (HA.out.below BW.out) (HE.out.below BW.out)).mono ?_
    rintro e w1 ⟨rfl, hb⟩
    have TP1 := Lib.hid ((hb.block _ (lt_of_block TP.out)).trans TP.out)
    have TQ1 := Lib.hid ((hb.block _ (lt_of_block TQ.out)).trans TQ.out)
    have B1 := Lib.hid (BW.out.trans (hb.mono BW.out.size))
    clear hb TP TQ BW c0 c1 c2 c3 c4 c5 cf
    cases hr : rightB a with
    | false =>
      have h1 := Lib.hid (cmp_bad (a := a) (b := b) (by rw [hr]; rfl))
      go_wp2_with fail
      go_ret2
      exact ⟨by rw [h1.out.1, h1.out.2]; rfl, B1.out⟩
    | true =>
      have HR := Lib.hid hr
      obtain ⟨c0, c1, c2, c3, c4, c5, cf⟩ := cells6 TQ1.out
      go_wp2_with fail
      refine (isRight_any b _ bi bci bo bct w1 (HB.out.below B1.out) (HE.out.below B1.out)).mono ?_
      rintro e w2 ⟨rfl, hb⟩
      have TP2 := Lib.hid ((hb.block _ (lt_of_block TP1.out)).trans TP1.out)
      have TQ2 := Lib.hid ((hb.block _ (lt_of_block TQ1.out)).trans TQ1.out)
      have B2 := Lib.hid (B1.out.trans (hb.mono B1.out.size))
      clear hb TP1 TQ1 B1 c0 c1 c2 c3 c4 c5 cf
      cases hrb : rightB b with
      | false =>
        have h1 := Lib.hid (cmp_bad (a := a) (b := b) (by rw [hrb, Bool.and_false]))
        go_wp2_with fail
        go_ret2
        exact ⟨by rw [h1.out.1, h1.out.2]; rfl, B2.out⟩
      | true =>
        have HRB := Lib.hid hrb
        have h1 := Lib.hid (cmp_good hr hrb)
        clear hr hrb
        obtain ⟨c0, c1, c2, c3, c4, c5, cf⟩ := cells6 TP2.out
        obtain ⟨d0, d1, d2, d3, d4, d5, df⟩ := cells6 TQ2.out
        have hS : CmpS w2 p q (.string a.name) (.int .i64 a.kind) (.int .i64 a.num) (.string a.text) (.slice ai a.ints.length ci) (.slice ao a.texts.length ct) (.string b.name) (.int .i64 b.kind) (.int .i64 b.num) (.string b.text) (.slice bi b.ints.length bci) (.slice bo b.texts.length bct) w2 := ⟨c0, c1, c2, c3, c4, c5, d0, d1, d2, d3, d4, d5, Below.refl _ _⟩
        have HSD := hS.step (Below.refl w2.heap.size w2).drew
        have hEX : ∀ X, CmpS w2 p q (.string a.name) (.int .i64 a.kind) (.int .i64 a.num) (.string a.text) (.slice ai a.ints.length ci) (.slice ao a.texts.length ct) (.string b.name) (.int .i64 b.kind) (.int .i64 b.num) (.string b.text) (.slice bi b.ints.length bci) (.slice bo b.texts.length bct) X → Env X := fun X h => HE.out.below (B2.out.trans (h.below.mono B2.out.size))
        have HFIN := Lib.hid (show ∀ X, (X.cell? ⟨p, 0, none⟩ = some (.string a.name) ∧ X.cell? ⟨p, 1, none⟩ = some (.int .i64 a.kind) ∧ X.cell? ⟨p, 2, none⟩ = some (.int .i64 a.num) ∧ X.cell? ⟨p, 3, none⟩ = some (.string a.text) ∧ X.cell? ⟨p, 4, none⟩ = some (.slice ai a.ints.length ci) ∧ X.cell? ⟨p, 5, none⟩ = some (.slice ao a.texts.length ct) ∧ X.cell? ⟨q, 0, none⟩ = some (.string b.name) ∧ X.cell? ⟨q, 1, none⟩ = some (.int .i64 b.kind) ∧ X.cell? ⟨q, 2, none⟩ = some (.int .i64 b.num) ∧ X.cell? ⟨q, 3, none⟩ = some (.string b.text) ∧ X.cell? ⟨q, 4, none⟩ = some (.slice bi b.ints.length bci) ∧ X.cell? ⟨q, 5, none⟩ = some (.slice bo b.texts.length bct) ∧ Hid (Below w2.heap.size w2 X)) → Below w.heap.size w X from fun X h => B2.out.trans ((CmpS.below (V := w2) (p := p) (q := q) h).mono B2.out.size))
        have HVA := Lib.hid (show ∀ X, (X.cell? ⟨p, 0, none⟩ = some (.string a.name) ∧ X.cell? ⟨p, 1, none⟩ = some (.int .i64 a.kind) ∧ X.cell? ⟨p, 2, none⟩ = some (.int .i64 a.num) ∧ X.cell? ⟨p, 3, none⟩ = some (.string a.text) ∧ X.cell? ⟨p, 4, none⟩ = some (.slice ai a.ints.length ci) ∧ X.cell? ⟨p, 5, none⟩ = some (.slice ao a.texts.length ct) ∧ X.cell? ⟨q, 0, none⟩ = some (.string b.name) ∧ X.cell? ⟨q, 1, none⟩ = some (.int .i64 b.kind) ∧ X.cell? ⟨q, 2, none⟩ = some (.int .i64 b.num) ∧ X.cell? ⟨q, 3, none⟩ = some (.string b.text) ∧ X.cell? ⟨q, 4, none⟩ = some (.slice bi b.ints.length bci) ∧ X.cell? ⟨q, 5, none⟩ = some (.slice bo b.texts.length bct) ∧ Hid (Below w2.heap.size w2 X)) → Calls Tryz.prog 51 #[.agg #[.string a.name, .int .i64 a.kind, .int .i64 a.num, .string a.text, .slice ai a.ints.length ci, .slice ao a.texts.length ct]] X (fun e w' => e = .returned (.string ⟨(valueL a).toArray⟩) ∧ Below X.heap.size X w') from
          fun X h => value_any a _ ai ci ao ct HR.out X (HA.out.below (B2.out.trans ((CmpS.below (V := w2) (p := p) (q := q) h).mono B2.out.size))) (hEX X h))
        have HVB := Lib.hid (show ∀ X, (X.cell? ⟨p, 0, none⟩ = some (.string a.name) ∧ X.cell? ⟨p, 1, none⟩ = some (.int .i64 a.kind) ∧ X.cell? ⟨p, 2, none⟩ = some (.int .i64 a.num) ∧ X.cell? ⟨p, 3, none⟩ = some (.string a.text) ∧ X.cell? ⟨p, 4, none⟩ = some (.slice ai a.ints.length ci) ∧ X.cell? ⟨p, 5, none⟩ = some (.slice ao a.texts.length ct) ∧ X.cell? ⟨q, 0, none⟩ = some (.string b.name) ∧ X.cell? ⟨q, 1, none⟩ = some (.int .i64 b.kind) ∧ X.cell? ⟨q, 2, none⟩ = some (.int .i64 b.num) ∧ X.cell? ⟨q, 3, none⟩ = some (.string b.text) ∧ X.cell? ⟨q, 4, none⟩ = some (.slice bi b.ints.length bci) ∧ X.cell? ⟨q, 5, none⟩ = some (.slice bo b.texts.length bct) ∧ Hid (Below w2.heap.size w2 X)) → Calls Tryz.prog 51 #[.agg #[.string b.name, .int .i64 b.kind, .int .i64 b.num, .string b.text, .slice bi b.ints.length bci, .slice bo b.texts.length bct]] X (fun e w' => e = .returned (.string ⟨(valueL b).toArray⟩) ∧ Below X.heap.size X w') from
          fun X h => value_any b _ bi bci bo bct HRB.out X (HB.out.below (B2.out.trans ((CmpS.below (V := w2) (p := p) (q := q) h).mono B2.out.size))) (hEX X h))
        have HCMP := Lib.hid (show cmpL a b = orL (Lib.compareBytes a.name.data.toList b.name.data.toList) (kcmp a.kind b.kind) (Lib.compareBytes (valueL a) (valueL b)) from rfl)
        clear hEX hS c0 c1 c2 c3 c4 c5 cf d0 d1 d2 d3 d4 d5 df HE HR HRB TP2 TQ2 B2
        go_upto_region 4 with fail
        clear HA HB
        generalize a.name = na at HSD HVA HVB HFIN HCMP ⊢
        generalize a.kind = ka at HSD HVA HVB HFIN HCMP ⊢
        generalize a.num = za at HSD HVA HVB HFIN ⊢
        generalize a.text = ta at HSD HVA HVB HFIN ⊢
        generalize a.ints.length = la at HSD HVA HVB HFIN ⊢
        generalize a.texts.length = ma at HSD HVA HVB HFIN ⊢
        generalize b.name = nb at HSD HVA HVB HFIN HCMP ⊢
        generalize b.kind = kb at HSD HVA HVB HFIN HCMP ⊢
        generalize b.num = zb at HSD HVA HVB HFIN ⊢
        generalize b.text = tb at HSD HVA HVB HFIN ⊢
        generalize b.ints.length = lb at HSD HVA HVB HFIN ⊢
        generalize b.texts.length = mb at HSD HVA HVB HFIN ⊢
        generalize valueL a = xa at HVA HCMP
        generalize valueL b = xb at HVB HCMP
        go_cut [8] (fun z w' => z = .int .i64 (cmpL a b) ∧ Hid (Below w.heap.size w w'))
        case first =>
          clear h1
          go_region_held3 (fun w' => w'.cell? ⟨p, 0, none⟩ = some (.string na) ∧ w'.cell? ⟨p, 1, none⟩ = some (.int .i64 ka) ∧ w'.cell? ⟨p, 2, none⟩ = some (.int .i64 za) ∧ w'.cell? ⟨p, 3, none⟩ = some (.string ta) ∧ w'.cell? ⟨p, 4, none⟩ = some (.slice ai la ci) ∧ w'.cell? ⟨p, 5, none⟩ = some (.slice ao ma ct) ∧ w'.cell? ⟨q, 0, none⟩ = some (.string nb) ∧ w'.cell? ⟨q, 1, none⟩ = some (.int .i64 kb) ∧ w'.cell? ⟨q, 2, none⟩ = some (.int .i64 zb) ∧ w'.cell? ⟨q, 3, none⟩ = some (.string tb) ∧ w'.cell? ⟨q, 4, none⟩ = some (.slice bi lb bci) ∧ w'.cell? ⟨q, 5, none⟩ = some (.slice bo mb bct) ∧ Hid (Below w2.heap.size w2 w')) (first | exact HSD | assumption | exact CmpS.step (V := w2) (p := p) (q := q) (by assumption) (by assumption) | exact CmpS.step (V := w2) (p := p) (q := q) (by assumption) (alloc_below _ _))
            (first
              | (go_at_call 49; refine (Tryz.strings_Compare _ _ _).mono ?_; rintro e w' ⟨rfl, rfl⟩)
              | (go_at_call 50; refine (kindCompare_any _ _ _).mono ?_; rintro e w' ⟨rfl, rfl⟩)
              | (go_at_call 51; with_reducible refine (HVA.out _ (by assumption)).mono ?_; rintro e w' ⟨rfl, hb⟩)
              | (go_at_call 51; with_reducible refine (HVB.out _ (by assumption)).mono ?_; rintro e w' ⟨rfl, hb⟩)
              | (go_at_call 48; refine (or3_any _ _ _ _ _ _ (heap_alloc_new _ _)).mono ?_; rintro e w' ⟨rfl, rfl⟩))
          all_goals
            go_wp2_with fail
            go_meet
            exact ⟨by rw [HCMP.out], HFIN.out _ (by first | assumption | exact CmpS.step (V := w2) (p := p) (q := q) (by assumption) (alloc_below _ _))⟩
        case rest =>
          obtain ⟨rfl, hb⟩ := hcut
          have HBF := Lib.hid hb
          clear hb
          go_wp2_with fail
          go_ret2
          exact ⟨by rw [h1.out.1, h1.out.2]; rfl, HBF.out⟩
end Go.Proofs.YtiofnjnaleglgaaGreatDoor

