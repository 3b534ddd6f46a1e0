/-
  Texts of mine in one file: AtPA.
-/
import Derived.Test.YtiofnjnaleglgaaGreatDoorG22
import Derived.Test.YtiofnjnaleglgaaGreatDoorG25
import Derived.Test.YtiofnjnaleglgaaGreatDoorG34
/-
  'enclosure' and the function that it hands back, by contracts.
-/
namespace Go.Proofs.YtiofnjnaleglgaaGreatDoor
open Go.RowKit Go.Maps

def cD (n : Int) : DataW Unit := .lit (.int .i32 n)
def closeMap : DataW Unit := (((DataW.map []).put (.int .i32 34) (cD 34)).put (.int .i32 91) (cD 93)).put (.int .i32 40) (cD 41)
theorem closeMap_at (c : Nat) : closeMap.atKey (.int .i32 (c : Int)) (cD 0) = cD (closeOf c : Nat) := by
  by_cases h1 : c = 34
  · subst h1; rfl
  by_cases h2 : c = 91
  · subst h2; rfl
  by_cases h3 : c = 40
  · subst h3; rfl
  unfold closeMap
  have ne : ∀ {a : Int}, ¬ (c : Int) = a → (Lit.int .i32 (c : Int)) ≠ Lit.int .i32 a := fun h e => h (by injection e)
  rw [atKey_put_other (ne (by omega)), atKey_put_other (ne (by omega)), atKey_put_other (ne (by omega))]
  unfold closeOf
  rw [if_neg h1, if_neg h2, if_neg h3]
  rfl
/-- What is open, and whether the next character is escaped, as it lies in memory. -/
structure EncAt (W : World) (b1 b2 b3 bm : Nat) (s : Nat × Bool) : Prop where
  m : W.ownsMap Tryz.prog 21 (plainElem (H := Unit) Tryz.prog 21) bm 3 closeMap
  c1 : W.heap[b1]? = some (.cells #[.map (some bm)] 156 (0, 0))
  c2 : W.heap[b2]? = some (.cells #[.int .i32 (s.1 : Int)] 21 (0, 0))
  c3 : W.heap[b3]? = some (.cells #[.bool s.2] 4 (0, 0))
  ne12 : b1 ≠ b2
  ne13 : b1 ≠ b3
  ne23 : b2 ≠ b3
theorem EncAt.moved {W W' : World} {b1 b2 b3 bm : Nat} {s : Nat × Bool} (h : EncAt W b1 b2 b3 bm s) (h0 : W'.heap[bm]? = W.heap[bm]?) (h1 : W'.heap[b1]? = W.heap[b1]?) (h2 : W'.heap[b2]? = W.heap[b2]?) (h3 : W'.heap[b3]? = W.heap[b3]?) : EncAt W' b1 b2 b3 bm s := by
  obtain ⟨es, clock, hm, hr⟩ := h.m
  exact ⟨⟨es, clock, h0.trans hm, hr⟩, h1.trans h.c1, h2.trans h.c2, h3.trans h.c3, h.ne12, h.ne13, h.ne23⟩
theorem EncAt.mapAt {W : World} {b1 b2 b3 bm : Nat} {s : Nat × Bool} (h : EncAt W b1 b2 b3 bm s) : ∃ es cl, W.heap[bm]? = some (.map es cl) := by
  obtain ⟨es, clock, hm, _⟩ := h.m
  exact ⟨es, clock, hm⟩
theorem zero_i32 (w : World) : (zeroValue 21).run Tryz.prog w = .ok (.int .i32 0) w := by kernel_rfl
theorem EncAt.set2 {W : World} {b1 b2 b3 bm : Nat} {s : Nat × Bool} (h : EncAt W b1 b2 b3 bm s) (v : Nat) : EncAt (W.setCell ⟨b2, 0, none⟩ (.int .i32 (v : Int))) b1 b2 b3 bm (v, s.2) := by
  obtain ⟨es, clock, hm, hr⟩ := h.m
  refine ⟨⟨es, clock, (heap_setCell_other _ _ _ _ (fun e => ?_)).trans hm, hr⟩, (heap_setCell_other _ _ _ _ h.ne12).trans h.c1, heap_setCell_same _ _ 0 _ _ _ h.c2, (heap_setCell_other _ _ _ _ (Ne.symm h.ne23)).trans h.c3, h.ne12, h.ne13, h.ne23⟩
  have := h.c2
  dsimp only at e
  rw [← e, hm] at this
  cases this
theorem EncAt.set3 {W : World} {b1 b2 b3 bm : Nat} {s : Nat × Bool} (h : EncAt W b1 b2 b3 bm s) (v : Bool) : EncAt (W.setCell ⟨b3, 0, none⟩ (.bool v)) b1 b2 b3 bm (s.1, v) := by
  obtain ⟨es, clock, hm, hr⟩ := h.m
  refine ⟨⟨es, clock, (heap_setCell_other _ _ _ _ (fun e => ?_)).trans hm, hr⟩, (heap_setCell_other _ _ _ _ h.ne13).trans h.c1, (heap_setCell_other _ _ _ _ h.ne23).trans h.c2, heap_setCell_same _ _ 0 _ _ _ h.c3, h.ne12, h.ne13, h.ne23⟩
  have := h.c3
  dsimp only at e
  rw [← e, hm] at this
  cases this

/-- What the function answers, and what it turns. -/
def EncPost (b1 b2 b3 bm : Nat) (s : Nat × Bool) (c : Nat) (w : World) (e : Ending) (w' : World) : Prop :=
  e = .returned (.bool (((encStep s c).1 : Int) != 0)) ∧ EncAt w' b1 b2 b3 bm (encStep s c) ∧ ∃ r, (r = b2 ∨ r = b3) ∧ w.grownBy w' (some r)

theorem grown_set {w : World} {r : Nat} (v : Value) : w.grownBy (w.setCell ⟨r, 0, none⟩ v) (some r) := grownBy_setCell' w r v

set_option maxHeartbeats 1000000 in
set_option maxRecDepth 100000 in
theorem enc1_any (b1 b2 b3 bm : Nat) (s : Nat × Bool) (c : Nat) (hc : c ≤ 1114111) (w : World) (h : EncAt w b1 b2 b3 bm s) :
    Calls Tryz.prog 131 #[.int .i32 (c : Int), .pointer (some ⟨b3, 0, none⟩), .pointer (some ⟨b2, 0, none⟩), .pointer (some ⟨b1, 0, none⟩)] w (EncPost b1 b2 b3 bm s c w) := by
  obtain ⟨s1, s2⟩ := s
  have HA := Lib.hid h
  have x1 : w.cell? ⟨b1, 0, none⟩ = some (.map (some bm)) := cell_of_row w b1 0 _ _ _ h.c1
  have x2 : w.cell? ⟨b2, 0, none⟩ = some (.int .i32 (s1 : Int)) := cell_of_row w b2 0 _ _ _ h.c2
  have x3 : w.cell? ⟨b3, 0, none⟩ = some (.bool s2) := cell_of_row w b3 0 _ _ _ h.c3
  have f2 : w.frozen? ⟨b2, 0, none⟩ = false := by simp [World.frozen?, h.c2]
  have f3 : w.frozen? ⟨b3, 0, none⟩ = false := by simp [World.frozen?, h.c3]
  have n23 : b2 ≠ b3 := h.ne23
  have n32 : b3 ≠ b2 := Ne.symm h.ne23
  have y2 : ∀ v, (w.setCell ⟨b3, 0, none⟩ (.bool v)).cell? ⟨b2, 0, none⟩ = some (.int .i32 (s1 : Int)) := fun v => (World.cell?_of_block (heap_setCell_other _ _ _ _ n23)).trans x2
  have hwf : (Lit.int .i32 (c : Int)).wf = true := by
    simp [Lit.wf, IntKind.min, IntKind.max, IntKind.signed, IntKind.bits]
    omega
  obtain ⟨z, L, hz, _⟩ := h.m.lookup_int (t := 156) (e := 21) (key := .int .i32 (c : Int)) (int_keyed Tryz.underlying21) Tryz.underlying156 Tryz.underlying21 (zero_i32 _) (keyOf_int_mk Tryz.underlying21 hwf)
  have hzc : z = (closeOf c : Nat) := by
    have e := closeMap_at c
    unfold cD at e
    rw [hz] at e
    injection e with e
    injection e
  subst hzc
  clear hz hwf h
  go_enter Tryz.func131, Tryz.ntmps131
  cases s2 with
  | true =>
    have he : encStep (s1, true) c = (s1, false) := rfl
    go_wp2_with fail
    go_ret
    unfold EncPost
    rw [he]
    exact ⟨by first | rfl | simp, HA.out.set3 false, b3, .inr rfl, grown_set _⟩
  | false =>
    by_cases h0 : s1 = 0
    · subst h0
      have he : encStep (0, false) c = (closeOf c, false) := rfl
      go_wp2_with fail
      go_ret
      unfold EncPost
      rw [he]
      exact ⟨by first | rfl | simp, HA.out.set2 (closeOf c), b2, .inl rfl, grown_set _⟩
    · have hi0 : ¬ (s1 : Int) = 0 := by omega
      by_cases h92 : c = 92
      · subst h92
        have he : encStep (s1, false) 92 = (s1, true) := by simp [encStep, h0]
        go_wp2_with fail
        go_ret
        unfold EncPost
        rw [he]
        exact ⟨by first | rfl | simp, HA.out.set3 true, b3, .inr rfl, grown_set _⟩
      · have hi92 : ¬ (c : Int) = 92 := by omega
        by_cases hcs : c = s1
        · subst hcs
          have he : encStep (c, false) c = (0, false) := by simp [encStep, h0, h92]
          go_wp2_with fail
          go_ret
          unfold EncPost
          rw [he]
          exact ⟨by first | rfl | simp, HA.out.set2 0, b2, .inl rfl, grown_set _⟩
        · have hics : ¬ (c : Int) = (s1 : Int) := by omega
          have he : encStep (s1, false) c = (s1, false) := by simp [encStep, h0, h92, hcs]
          go_wp2_with fail
          go_ret
          unfold EncPost
          rw [he]
          exact ⟨by first | rfl | simp, HA.out, b2, .inl rfl, ⟨rfl, rfl, rfl, Nat.le_refl _, fun _ _ _ => rfl⟩⟩

set_option maxHeartbeats 1000000 in
set_option maxRecDepth 100000 in
theorem enclosure_any (w : World) :
    Calls Tryz.prog 115 #[] w fun e w' => ∃ b1 b2 b3 bm, e = .returned (.func (.func 131) #[] #[.pointer (some ⟨b3, 0, none⟩), .pointer (some ⟨b2, 0, none⟩), .pointer (some ⟨b1, 0, none⟩)]) ∧ EncAt w' b1 b2 b3 bm (0, false) ∧
      w.heap.size ≤ b2 ∧ w.heap.size ≤ b3 ∧ Below w.heap.size w w' := by
  have hmm := @run_makeMap Tryz.prog
  have own0 : (w.alloc (.map #[] 0)).ownsMap Tryz.prog 21 (plainElem (H := Unit) Tryz.prog 21) w.heap.size 0 (.map []) := World.ownsMap_made w Tryz.prog 21 _
  obtain ⟨w1, r1, own1, g1⟩ := own0.update (t := 156) (e := 21) (key := .int .i32 34) (val := .int .i32 34) (int_keyed Tryz.underlying21) Tryz.underlying156 (by decide) (keyOf_int_mk Tryz.underlying21 (by decide)) (plainElem_int Tryz.underlying21 (by decide))
  have R1 : (Instr.mapUpdate 156 (.map (some w.heap.size)) (.int .i32 34) (.int .i32 34)).run Tryz.prog (w.alloc (.map #[] 0)) = .ok () w1 := r1
  have G1 := Lib.hid g1
  clear r1 g1
  obtain ⟨w2, r2, own2, g2⟩ := own1.update (t := 156) (e := 21) (key := .int .i32 91) (val := .int .i32 93) (int_keyed Tryz.underlying21) Tryz.underlying156 (by decide) (keyOf_int_mk Tryz.underlying21 (by decide)) (plainElem_int Tryz.underlying21 (by decide))
  have R2 : (Instr.mapUpdate 156 (.map (some w.heap.size)) (.int .i32 91) (.int .i32 93)).run Tryz.prog w1 = .ok () w2 := r2
  have G2 := Lib.hid g2
  clear r2 g2
  obtain ⟨w3, r3, own3, g3⟩ := own2.update (t := 156) (e := 21) (key := .int .i32 40) (val := .int .i32 41) (int_keyed Tryz.underlying21) Tryz.underlying156 (by decide) (keyOf_int_mk Tryz.underlying21 (by decide)) (plainElem_int Tryz.underlying21 (by decide))
  have R3 : (Instr.mapUpdate 156 (.map (some w.heap.size)) (.int .i32 40) (.int .i32 41)).run Tryz.prog w2 = .ok () w3 := r3
  have G3 := Lib.hid g3
  clear r3 g3
  have OWN3 := Lib.hid own3
  have hr : ∀ j, some w.heap.size = some j → w.heap.size ≤ j := fun j e => by cases e; omega
  have b0 : Below w.heap.size w (w.alloc (.map #[] 0)) := (Below.refl _ _).alloc (Nat.le_refl _) _
  have b1 := b0.grown G1.out b0.size hr
  have b2 := b1.grown G2.out b1.size hr
  have b3 := b2.grown G3.out b2.size hr
  have B3 := Lib.hid b3
  have hlt : Hid (w.heap.size < w3.heap.size) := own3.lt
  clear own0 own1 own2 own3 b0 b1 b2 b3 G1 G2 G3 hr
  go_enter Tryz.func115, Tryz.ntmps115
  go_wp2_with fail
  go_ret
  have e1 : (w3.alloc (.cells #[.map (some w.heap.size)] 156)).heap.size = w3.heap.size + 1 := by simp
  have e2 : ((w3.alloc (.cells #[.map (some w.heap.size)] 156)).alloc (.cells #[.int .i32 0] 21)).heap.size = w3.heap.size + 1 + 1 := by simp
  have k1 := heap_alloc_new w3 (.cells #[.map (some w.heap.size)] 156)
  have k2 := heap_alloc_new (w3.alloc (.cells #[.map (some w.heap.size)] 156)) (.cells #[.int .i32 0] 21)
  have k3 := heap_alloc_new ((w3.alloc (.cells #[.map (some w.heap.size)] 156)).alloc (.cells #[.int .i32 0] 21)) (.cells #[.bool false] 4)
  have l1 := (Below.heap_alloc _ (.cells #[.bool false] 4) _ (lt_of_block ((Below.heap_alloc _ (.cells #[.int .i32 0] 21) _ (lt_of_block k1)).trans k1))).trans ((Below.heap_alloc _ (.cells #[.int .i32 0] 21) _ (lt_of_block k1)).trans k1)
  have l2 := (Below.heap_alloc _ (.cells #[.bool false] 4) _ (lt_of_block k2)).trans k2
  rw [e1] at l2
  rw [e2] at k3
  have hs := B3.out.size
  exact ⟨w3.heap.size, w3.heap.size + 1, w3.heap.size + 1 + 1, w.heap.size, rfl, ⟨((OWN3.out.alloc _).alloc _).alloc _, l1, l2, k3, by omega, by omega, by omega⟩, by omega, by omega, ((B3.out.alloc hs _).alloc (by omega) _).alloc (by omega) _⟩
end Go.Proofs.YtiofnjnaleglgaaGreatDoor

