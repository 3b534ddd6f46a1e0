/-
  Texts of mine in one file: AtM.
-/
import Derived.Test.YtiofnjnaleglgaaGreatDoorG03
import Derived.Maps.OwnSet
/-
  'mannerOf' by its contract: the table of the methods, kind by kind.
-/
namespace Go.Proofs.YtiofnjnaleglgaaGreatDoor
open Go.RowKit Go.Maps

/-- The manner of a kind. -/
def manOf (i : Nat) : Value := match i with
  | 0 => .agg #[.func (.func 92) #[] #[], .func (.func 93) #[] #[], .func (.func 94) #[] #[]]
  | 1 => .agg #[.func (.func 95) #[] #[], .func (.func 96) #[] #[], .func (.func 97) #[] #[]]
  | 2 => .agg #[.func (.func 98) #[] #[], .func (.func 99) #[] #[], .func (.func 100) #[] #[]]
  | 3 => .agg #[.func (.func 101) #[] #[], .func (.func 102) #[] #[], .func (.func 103) #[] #[]]
  | 4 => .agg #[.func (.func 104) #[] #[], .func (.func 105) #[] #[], .func (.func 106) #[] #[]]
  | 5 => .agg #[.func (.func 107) #[] #[], .func (.func 108) #[] #[], .func (.func 109) #[] #[]]
  | _ => .agg #[.nilFunc, .nilFunc, .nilFunc]

/-- The number of the first function of a manner. -/
def manNo (v : Value) : Int := match v with
  | .agg cs => match cs[0]? with
    | some (Value.func (Fn.func f) _ _) => (f : Int)
    | _ => -1
  | _ => -2
open Classical in
/-- How a manner in the table reads: as its kind. -/
noncomputable def manR (v : Value) : Option (DataW Unit × List MemPlace) := if ∃ i, i ≤ 6 ∧ v = manOf i then some (.lit (.int .i64 (manNo v)), []) else none
theorem manR_of {i : Nat} (h : i ≤ 6) : manR (manOf i) = some (.lit (.int .i64 (manNo (manOf i))), []) := if_pos ⟨i, h, rfl⟩
theorem manNo_inj {i j : Nat} (hi : i ≤ 6) (hj : j ≤ 6) (h : manNo (manOf i) = manNo (manOf j)) : i = j := by
  revert h
  rcases (show i = 0 ∨ i = 1 ∨ i = 2 ∨ i = 3 ∨ i = 4 ∨ i = 5 ∨ i = 6 by omega) with rfl | rfl | rfl | rfl | rfl | rfl | rfl <;>
  rcases (show j = 0 ∨ j = 1 ∨ j = 2 ∨ j = 3 ∨ j = 4 ∨ j = 5 ∨ j = 6 by omega) with rfl | rfl | rfl | rfl | rfl | rfl | rfl <;> decide
theorem manR_inv {v : Value} {i : Nat} {ps : List MemPlace} (hi : i ≤ 6) (h : manR v = some (.lit (.int .i64 (manNo (manOf i))), ps)) : v = manOf i := by
  unfold manR at h
  split at h
  · rename_i hx
    obtain ⟨j, hj, rfl⟩ := hx
    have : manNo (manOf j) = manNo (manOf i) := by injection h with h; injection h with h _; injection h with h; injection h
    rw [manNo_inj hj hi this]
  · cases h
def manD (i : Nat) : DataW Unit := .lit (.int .i64 (manNo (manOf i)))
def manMap : DataW Unit := ((((((DataW.map []).put (.int .i64 0) (manD 0)).put (.int .i64 1) (manD 1)).put (.int .i64 2) (manD 2)).put (.int .i64 3) (manD 3)).put (.int .i64 4) (manD 4)).put (.int .i64 5) (manD 5)
theorem manMap_is : manMap = .map [(.int .i64 0, manD 0), (.int .i64 1, manD 1), (.int .i64 2, manD 2), (.int .i64 3, manD 3), (.int .i64 4, manD 4), (.int .i64 5, manD 5)] := by rfl
/-- The row of a kind. -/
def kindNo (k : Int) : Nat := if 0 ≤ k ∧ k ≤ 5 then k.toNat else 6
theorem kindNo_le (k : Int) : kindNo k ≤ 6 := by unfold kindNo; split <;> omega
theorem manMap_has (k : Int) : Maps.has manMap (.int .i64 k) = decide (0 ≤ k ∧ k ≤ 5) := by
  by_cases h : 0 ≤ k ∧ k ≤ 5
  · rcases (show k = 0 ∨ k = 1 ∨ k = 2 ∨ k = 3 ∨ k = 4 ∨ k = 5 by omega) with rfl | rfl | rfl | rfl | rfl | rfl <;> decide
  · have h' : ¬ k = 0 ∧ ¬ k = 1 ∧ ¬ k = 2 ∧ ¬ k = 3 ∧ ¬ k = 4 ∧ ¬ k = 5 := by omega
    obtain ⟨h0, h1, h2, h3, h4, h5⟩ := h'
    rw [decide_eq_false h]
    unfold manMap
    have ne : ∀ {a : Int}, ¬ k = a → (Lit.int .i64 k) ≠ Lit.int .i64 a := fun h e => h (by injection e)
    rw [has_put_other (ne h5), has_put_other (ne h4), has_put_other (ne h3), has_put_other (ne h2), has_put_other (ne h1), has_put_other (ne h0)]
    rfl
theorem manMap_at (k : Int) : manMap.atKey (.int .i64 k) (manD 6) = manD (kindNo k) := by
  by_cases h : 0 ≤ k ∧ k ≤ 5
  · rcases (show k = 0 ∨ k = 1 ∨ k = 2 ∨ k = 3 ∨ k = 4 ∨ k = 5 by omega) with rfl | rfl | rfl | rfl | rfl | rfl <;> rfl
  · have h' : ¬ k = 0 ∧ ¬ k = 1 ∧ ¬ k = 2 ∧ ¬ k = 3 ∧ ¬ k = 4 ∧ ¬ k = 5 := by omega
    obtain ⟨h0, h1, h2, h3, h4, h5⟩ := h'
    rw [kindNo, if_neg h]
    unfold manMap
    have ne : ∀ {a : Int}, ¬ k = a → (Lit.int .i64 k) ≠ Lit.int .i64 a := fun h e => h (by injection e)
    rw [atKey_put_other (ne h5), atKey_put_other (ne h4), atKey_put_other (ne h3), atKey_put_other (ne h2), atKey_put_other (ne h1), atKey_put_other (ne h0)]
    rfl

/-- A block of three cells, none frozen. -/
theorem cells3 {w : World} {b : Nat} {t : TypeId} {v0 v1 v2 : Value} (h : w.heap[b]? = some (.cells #[v0, v1, v2] t (0, 0))) :
    w.cell? ⟨b, 0, none⟩ = some v0 ∧ w.cell? ⟨b, 1, none⟩ = some v1 ∧ w.cell? ⟨b, 2, none⟩ = some v2 ∧ ∀ j, w.frozen? ⟨b, j, none⟩ = false := by
  refine ⟨?_, ?_, ?_, fun j => ?_⟩ <;> simp [World.cell?, World.frozen?, h]
theorem set3_block {w : World} {b : Nat} {t : TypeId} {v0 v1 v2 u0 u1 u2 : Value} (h : w.heap[b]? = some (.cells #[v0, v1, v2] t (0, 0))) :
    (((w.setCell ⟨b, 0, none⟩ u0).setCell ⟨b, 1, none⟩ u1).setCell ⟨b, 2, none⟩ u2).heap[b]? = some (.cells #[u0, u1, u2] t (0, 0)) := by
  have h0 := heap_setCell_same _ b 0 _ t u0 h
  have h1 := heap_setCell_same _ b 1 _ t u1 h0
  have h2 := heap_setCell_same _ b 2 _ t u2 h1
  rw [h2]
  rfl
theorem manVar {w : World} {b : Nat} {v0 v1 v2 : Value} (h : w.heap[b]? = some (.cells #[v0, v1, v2] 110 (0, 0))) :
    (loadVar 110 ⟨b, 0, none⟩).run Tryz.prog w = .ok (.agg #[v0, v1, v2]) w :=
  run_loadVar_row w b _ _ _ _ _ h Tryz.underlying110 rfl (by kernel_rfl)
theorem decide_and {p q : Prop} [Decidable p] [Decidable q] : decide (p ∧ q) = (decide p && decide q) := by by_cases p <;> by_cases q <;> simp_all
theorem zero_man (w : World) : (zeroValue 110).run Tryz.prog w = .ok (manOf 6) w := by kernel_rfl

set_option maxHeartbeats 1000000 in
set_option maxRecDepth 100000 in
theorem mannerOf_any (k : Int) (hk : -9223372036854775808 ≤ k ∧ k ≤ 9223372036854775807) (w : World) :
    Calls Tryz.prog 74 #[.int .i64 k] w fun e w' => e = .returned (.tuple #[manOf (kindNo k), .bool (decide (0 ≤ k ∧ k ≤ 5))]) ∧ Below w.heap.size w w' := by
  have hmm := @run_makeMap Tryz.prog
  have own0 : ((w.alloc (.cells #[.nilFunc, .nilFunc, .nilFunc] 110)).alloc (.map #[] 0)).ownsMap Tryz.prog 25 manR (w.heap.size + 1) 0 (.map []) := by
    have h := World.ownsMap_made (w.alloc (.cells #[.nilFunc, .nilFunc, .nilFunc] 110)) Tryz.prog 25 manR
    simpa using h
  obtain ⟨w1, r1, own1, g1⟩ := own0.update (t := 140) (e := 110) (key := .int .i64 0) (val := manOf 0) (int_keyed Tryz.underlying25) Tryz.underlying140 (by decide) (keyOf_int_mk Tryz.underlying25 (by decide)) (manR_of (by decide))
  have R1 : (Instr.mapUpdate 140 (.map (some (w.heap.size + 1))) (.int .i64 0) (.agg #[.func (.func 92) #[] #[], .func (.func 93) #[] #[], .func (.func 94) #[] #[]])).run Tryz.prog ((w.alloc (.cells #[.nilFunc, .nilFunc, .nilFunc] 110)).alloc (.map #[] 0)) = .ok () w1 := r1
  have G1 := Lib.hid g1
  clear r1 g1
  obtain ⟨w2, r2, own2, g2⟩ := own1.update (t := 140) (e := 110) (key := .int .i64 1) (val := manOf 1) (int_keyed Tryz.underlying25) Tryz.underlying140 (by decide) (keyOf_int_mk Tryz.underlying25 (by decide)) (manR_of (by decide))
  have R2 : (Instr.mapUpdate 140 (.map (some (w.heap.size + 1))) (.int .i64 1) (.agg #[.func (.func 95) #[] #[], .func (.func 96) #[] #[], .func (.func 97) #[] #[]])).run Tryz.prog w1 = .ok () w2 := r2
  have G2 := Lib.hid g2
  clear r2 g2
  obtain ⟨w3, r3, own3, g3⟩ := own2.update (t := 140) (e := 110) (key := .int .i64 2) (val := manOf 2) (int_keyed Tryz.underlying25) Tryz.underlying140 (by decide) (keyOf_int_mk Tryz.underlying25 (by decide)) (manR_of (by decide))
  have R3 : (Instr.mapUpdate 140 (.map (some (w.heap.size + 1))) (.int .i64 2) (.agg #[.func (.func 98) #[] #[], .func (.func 99) #[] #[], .func (.func 100) #[] #[]])).run Tryz.prog w2 = .ok () w3 := r3
  have G3 := Lib.hid g3
  clear r3 g3
  obtain ⟨w4, r4, own4, g4⟩ := own3.update (t := 140) (e := 110) (key := .int .i64 3) (val := manOf 3) (int_keyed Tryz.underlying25) Tryz.underlying140 (by decide) (keyOf_int_mk Tryz.underlying25 (by decide)) (manR_of (by decide))
  have R4 : (Instr.mapUpdate 140 (.map (some (w.heap.size + 1))) (.int .i64 3) (.agg #[.func (.func 101) #[] #[], .func (.func 102) #[] #[], .func (.func 103) #[] #[]])).run Tryz.prog w3 = .ok () w4 := r4
  have G4 := Lib.hid g4
  clear r4 g4
  obtain ⟨w5, r5, own5, g5⟩ := own4.update (t := 140) (e := 110) (key := .int .i64 4) (val := manOf 4) (int_keyed Tryz.underlying25) Tryz.underlying140 (by decide) (keyOf_int_mk Tryz.underlying25 (by decide)) (manR_of (by decide))
  have R5 : (Instr.mapUpdate 140 (.map (some (w.heap.size + 1))) (.int .i64 4) (.agg #[.func (.func 104) #[] #[], .func (.func 105) #[] #[], .func (.func 106) #[] #[]])).run Tryz.prog w4 = .ok () w5 := r5
  have G5 := Lib.hid g5
  clear r5 g5
  obtain ⟨w6, r6, own6, g6⟩ := own5.update (t := 140) (e := 110) (key := .int .i64 5) (val := manOf 5) (int_keyed Tryz.underlying25) Tryz.underlying140 (by decide) (keyOf_int_mk Tryz.underlying25 (by decide)) (manR_of (by decide))
  have R6 : (Instr.mapUpdate 140 (.map (some (w.heap.size + 1))) (.int .i64 5) (.agg #[.func (.func 107) #[] #[], .func (.func 108) #[] #[], .func (.func 109) #[] #[]])).run Tryz.prog w5 = .ok () w6 := r6
  have G6 := Lib.hid g6
  clear r6 g6
  obtain ⟨v, ps, L, hv⟩ := own6.look_ok (t := 140) (e := 110) (key := .int .i64 k) (int_keyed Tryz.underlying25) Tryz.underlying140 (zero_man _) (manR_of (i := 6) (by decide)) (keyOf_int_mk Tryz.underlying25 (WalkArith.wf_i64 hk))
  have L' : (Instr.lookup 140 (.map (some (w.heap.size + 1))) (.int .i64 k) true).run Tryz.prog w6 = .ok (.tuple #[v, .bool (decide (0 ≤ k ∧ k ≤ 5))]) w6 := by
    rw [← manMap_has]; exact L
  obtain rfl : v = manOf (kindNo k) := manR_inv (kindNo_le k) (by
    have e : manMap.atKey (.int .i64 k) (manD 6) = manD (kindNo k) := manMap_at k
    unfold manD at e
    rw [← e]; exact hv)
  have hs0 : w.heap.size + 2 = ((w.alloc (.cells #[.nilFunc, .nilFunc, .nilFunc] 110)).alloc (.map #[] 0)).heap.size := by simp
  have b0 : Below w.heap.size w ((w.alloc (.cells #[.nilFunc, .nilFunc, .nilFunc] 110)).alloc (.map #[] 0)) := ((Below.refl _ _).alloc (Nat.le_refl _) _).alloc (by simp) _
  have hr : ∀ j, some (w.heap.size + 1) = some j → w.heap.size ≤ j := fun j e => by cases e; omega
  have b1 := b0.grown G1.out b0.size hr
  have b2 := b1.grown G2.out b1.size hr
  have b3 := b2.grown G3.out b2.size hr
  have b4 := b3.grown G4.out b3.size hr
  have b5 := b4.grown G5.out b4.size hr
  have b6 := b5.grown G6.out b5.size hr
  have k0 : ((w.alloc (.cells #[.nilFunc, .nilFunc, .nilFunc] 110)).alloc (.map #[] 0)).heap[w.heap.size]? = some (.cells #[.nilFunc, .nilFunc, .nilFunc] 110 (0, 0)) :=
    (Below.heap_alloc _ _ _ (by simp)).trans (heap_alloc_new _ _)
  have hne : some w.heap.size ≠ some (w.heap.size + 1) := fun e => by injection e with e; omega
  have k1 := (G1.out.block _ (lt_of_block k0) hne).trans k0
  have k2 := (G2.out.block _ (lt_of_block k1) hne).trans k1
  have k3 := (G3.out.block _ (lt_of_block k2) hne).trans k2
  have k4 := (G4.out.block _ (lt_of_block k3) hne).trans k3
  have k5 := (G5.out.block _ (lt_of_block k4) hne).trans k4
  have k6 := (G6.out.block _ (lt_of_block k5) hne).trans k5
  have K6 := Lib.hid k6
  have B6 := Lib.hid b6
  have hlt := Lib.hid (lt_of_block k6)
  clear own0 own1 own2 own3 own4 own5 own6 L hv b0 b1 b2 b3 b4 b5 b6 k0 k1 k2 k3 k4 k5 k6 G1 G2 G3 G4 G5 G6 hr hs0
  have two : (∃ n m p, manOf (kindNo k) = .agg #[.func (.func n) #[] #[], .func (.func m) #[] #[], .func (.func p) #[] #[]]) ∨ manOf (kindNo k) = .agg #[.nilFunc, .nilFunc, .nilFunc] := by
    unfold manOf
    split <;> first | exact .inl ⟨_, _, _, rfl⟩ | exact .inr rfl
  obtain ⟨c0, c1, c2, hfz⟩ := cells3 K6.out
  have hnk := hlt.out
  clear hlt
  rw [decide_and] at L' ⊢
  generalize (decide (0 ≤ k) && decide (k ≤ 5)) = ok at L' ⊢
  rcases two with ⟨n, m, p, hm⟩ | hm
  · rw [hm] at L' ⊢
    clear hm
    go_enter Tryz.func74, Tryz.ntmps74
    go_wp2_with fail
    refine bodyPost_ret (v := .tuple #[.agg #[.func (.func n) #[] #[], .func (.func m) #[] #[], .func (.func p) #[] #[]], .bool ok]) (results_cell_tmp Tryz.results74 rfl rfl (manVar ((Below.heap_alloc _ _ _ (lt_of_block (set3_block K6.out))).trans (set3_block K6.out)))) rfl ?_
    exact ⟨rfl, (((B6.out.setCell (p := ⟨w.heap.size, 0, none⟩) (Nat.le_refl _) _).setCell (p := ⟨w.heap.size, 1, none⟩) (Nat.le_refl _) _).setCell (p := ⟨w.heap.size, 2, none⟩) (Nat.le_refl _) _).alloc (by rw [setCell_size, setCell_size, setCell_size]; exact B6.out.size) _⟩
  · rw [hm] at L' ⊢
    clear hm
    go_enter Tryz.func74, Tryz.ntmps74
    go_wp2_with fail
    refine bodyPost_ret (v := .tuple #[.agg #[.nilFunc, .nilFunc, .nilFunc], .bool ok]) (results_cell_tmp Tryz.results74 rfl rfl (manVar ((Below.heap_alloc _ _ _ (lt_of_block (set3_block K6.out))).trans (set3_block K6.out)))) rfl ?_
    exact ⟨rfl, (((B6.out.setCell (p := ⟨w.heap.size, 0, none⟩) (Nat.le_refl _) _).setCell (p := ⟨w.heap.size, 1, none⟩) (Nat.le_refl _) _).setCell (p := ⟨w.heap.size, 2, none⟩) (Nat.le_refl _) _).alloc (by rw [setCell_size, setCell_size, setCell_size]; exact B6.out.size) _⟩
end Go.Proofs.YtiofnjnaleglgaaGreatDoor

