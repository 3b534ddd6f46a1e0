/-
  The reference's 'Set' by its contract.
-/
import Derived.Test.YtiofnjnaleglgaaGreatDoorHAtAP
import Derived.Test.YtiofnjnaleglgaaGreatDoorG32
import Derived.Deep.RegionHeld3
import Derived.Deep.Cut
import Derived.Deep.DeepCutAuto
import Derived.BigRegion
namespace Go.Proofs.YtiofnjnaleglgaaGreatDoor
open Go.RowKit

/-- What 'Set' still puts, from a place in the list on. -/
def setR (a : At) : Bool → List At → List At
  | d, [] => if d then [] else [a]
  | d, x :: l => (if !d && !lessB x.name a.name then [a] else []) ++ ((if x.name = a.name then [] else [x]) ++ setR a (d || !lessB x.name a.name) l)
theorem setR_done (a : At) : ∀ l : List At, (∀ x ∈ l, x.name ≠ a.name) → setR a true l = l
  | [], _ => rfl
  | x :: l, h => by
    rw [setR, if_neg (h x (List.mem_cons_self ..)), Bool.true_or, setR_done a l (fun y hy => h y (List.mem_cons_of_mem _ hy))]
    rfl
theorem setR_merge (a : At) : ∀ l : List At, Rise l → setR a false l = mergeL l [a]
  | [], _ => by rw [one_nil]; rfl
  | x :: l, h => by
    rw [setR]
    rcases three x a with hx | hx | hx
    · have hl := cmpA_lt.1 hx
      have hne : ¬ x.name = a.name := fun e => by rw [e, lessB_irrefl] at hl; cases hl
      rw [one_lt hx, hl, if_neg hne, ← setR_merge a l h.2]
      rfl
    · have he := cmpA_eq.1 hx
      rw [one_eq hx, if_pos he, he, lessB_irrefl]
      have : ∀ y ∈ l, y.name ≠ a.name := fun y hy e => by
        have := h.1 y hy
        rw [he, e, lessB_irrefl] at this
        cases this
      show [a] ++ ([] ++ setR a true l) = _
      rw [setR_done a l this]
      rfl
    · have hg := cmpA_gt.1 hx
      have hne : ¬ x.name = a.name := fun e => by rw [e, lessB_irrefl] at hg; cases hg
      have hnl : lessB x.name a.name = false := by
        cases hh : lessB x.name a.name with
        | false => rfl
        | true => have := lessB_trans hg hh; rw [lessB_irrefl] at this; cases this
      rw [one_gt hx, if_neg hne, hnl]
      have : ∀ y ∈ l, y.name ≠ a.name := fun y hy e => by
        have h1 := lessB_trans hg (h.1 y hy)
        rw [e, lessB_irrefl] at h1
        cases h1
      show [a] ++ ([x] ++ setR a true l) = _
      rw [setR_done a l this]
      rfl
/-- What 'Set' has put before a place. -/
structure SetS (w : World) (a : At) (l : List At) (q : Nat) (d : Bool) (ao : Option Addr) (c : Nat) (es : List El) (W : World) : Prop where
  own : W.ownsRow w.heap.size 29 6 (.slice ao es.length c) es.length (es.flatMap El.cells)
  told : es.map (fun x : El => x.a) ++ setR a d (l.drop q) = setR a false l
  ok : ∀ e ∈ es, ElOK w e
  below : Below w.heap.size w W
  few : es.length ≤ q + 1
  few' : d = false → es.length ≤ q
theorem ok_snoc {w : World} {es : List El} {e : El} (h : ∀ x ∈ es, ElOK w x) (he : ElOK w e) : ∀ x ∈ es ++ [e], ElOK w x := fun x hx => by
  rcases List.mem_append.1 hx with h1 | h1
  · exact h x h1
  · rw [List.mem_singleton.1 h1]; exact he

theorem ne_beq {x y : ByteArray} (h : ¬ x = y) : (x.toList == y.toList) = false := by
  cases hb : (x.toList == y.toList) with
  | false => rfl
  | true => exact absurd (bytes_inj (by rw [← toList_data, ← toList_data]; exact eq_of_beq hb)) h
theorem el_cells {w : World} {bk p : Nat} {a : At} {ai : Option Addr} {ci : Nat} {ao : Option Addr} {ct : Nat} (h : ElAt w bk p a ai ci ao ct) :
    w.cell? ⟨bk, p, none⟩ = some (.string a.name) ∧ w.cell? ⟨bk, p + 1, none⟩ = some (.int .i64 a.kind) ∧ w.cell? ⟨bk, p + 2, none⟩ = some (.int .i64 a.num) ∧ w.cell? ⟨bk, p + 3, none⟩ = some (.string a.text) ∧ w.cell? ⟨bk, p + 4, none⟩ = some (.slice ai a.ints.length ci) ∧ w.cell? ⟨bk, p + 5, none⟩ = some (.slice ao a.texts.length ct) := ⟨h.c0, h.c1, h.c2, h.c3, h.c4, h.c5⟩

set_option maxHeartbeats 4000000 in
set_option maxRecDepth 100000 in
theorem RSet_any (so : Option Addr) (l : List At) (c : Nat) (a : At) (v : Value) (ai : Option Addr) (ci : Nat) (ao : Option Addr) (ct : Nat) (hn : l.length ≤ 1000) (w : World) (hl : ListAt w so l) (ha : AttAt w a v ai ci ao ct) :
    Calls Tryz.prog 23 #[.slice so l.length c, v] w fun e w' => ∃ (ro : Option Addr) (rc : Nat), e = .returned (.slice ro (setR a false l).length rc) ∧ (setR a false l).length ≤ rc ∧ ListAt w' ro (setR a false l) ∧ Below w.heap.size w w' := by
  have HL := Lib.hid hl
  have HA := Lib.hid ha
  have hv := ha.val
  clear hl ha
  subst hv
  have B0 := Lib.hid (alloc_below w (.cells #[.string a.name, .int .i64 a.kind, .int .i64 a.num, .string a.text, .slice ai a.ints.length ci, .slice ao a.texts.length ct] 29))
  have T0 := Lib.hid (heap_alloc_new w (.cells #[.string a.name, .int .i64 a.kind, .int .i64 a.num, .string a.text, .slice ai a.ints.length ci, .slice ao a.texts.length ct] 29))
  have L0 := Lib.hid (HL.out.below B0.out)
  have A0 := Lib.hid (HA.out.below B0.out)
  clear HL HA
  go_enter Tryz.func23, Tryz.ntmps23
  go_upto_region 2 with fail
  generalize w.alloc (.cells #[.string a.name, .int .i64 a.kind, .int .i64 a.num, .string a.text, .slice ai a.ints.length ci, .slice ao a.texts.length ct] 29) = w0 at B0 T0 L0 A0 ⊢
  generalize w.heap.size = D at T0 ⊢
  go_wp2_with fail
  go_loopw [5, 6, 7] (fun o d i wr => ∃ (q : Nat) (b : Bool) (xo : Option Addr) (rc : Nat) (es : List El), q ≤ l.length ∧ i = .int .i64 q ∧ d = .bool b ∧ o = .slice xo es.length rc ∧ Hid (SetS w0 a l q b xo rc es wr)) (fun _ _ i _ => l.length - (intOf i).toNat)
  case atStart => exact ⟨0, false, none, 0, [], Nat.zero_le _, rfl, rfl, rfl, ⟨⟨rfl, .inl ⟨rfl, rfl⟩⟩, rfl, fun e he => (by cases he), Below.refl _ _, Nat.zero_le _, fun _ => Nat.le_refl _⟩⟩
  case round =>
    obtain ⟨q, b, xo, rc, es, hq, rfl, rfl, rfl, hh⟩ := hrel
    have OKA := Lib.hid (show ElOK w0 ⟨a, ai, ci, ao, ct⟩ from ⟨A0.out.ints, A0.out.texts, A0.out.icap, A0.out.tcap, A0.out.wf⟩)
    have OWN := Lib.hid hh.out.own
    have BEL := Lib.hid hh.out.below
    have OK := Lib.hid hh.out.ok
    have FEW := Lib.hid hh.out.few
    have FEW' := Lib.hid hh.out.few'
    have HT := Lib.hid hh.out.told
    clear hh A0
    by_cases hlt : q < l.length
    · rcases L0.out with h0 | ⟨bk, o, rfl, hc⟩
      · rw [h0] at hlt; exact absurd hlt (Nat.not_lt_zero _)
      obtain ⟨bi, bci, bo, bct, hel⟩ := hc q hlt
      have hdr : l.drop q = nth l q :: l.drop (q + 1) := by rw [List.drop_eq_getElem_cons hlt, nth_get hlt]
      rw [hdr, setR] at HT
      have E0 := Lib.hid hel
      clear hc hel hdr
      generalize nth l q = x at HT E0
      have OKX := Lib.hid (show ElOK w0 ⟨x, bi, bci, bo, bct⟩ from ⟨E0.out.ints, E0.out.texts, E0.out.icap, E0.out.tcap, E0.out.wf⟩)
      have hqi : (q : Int) < (l.length : Int) := by omega
      have HQ := Lib.hid (show q < l.length from hlt)
      cases b with
      | true =>
        go_upto_region 6 with fail
        have HSD : wr.drew.cell? ⟨bk, o + q * 6, none⟩ = some (.string x.name) ∧ wr.drew.cell? ⟨D, 0, none⟩ = some (.string a.name) ∧ Hid (Below wr.heap.size wr wr.drew) := ⟨(E0.out.below BEL.out).c0, (cells6 ((BEL.out.block _ (lt_of_block T0.out)).trans T0.out)).1, (Below.refl wr.heap.size wr).drew⟩
        refine wp_region_held_drew (S := fun w' => w'.cell? ⟨bk, o + q * 6, none⟩ = some (.string x.name) ∧ w'.cell? ⟨D, 0, none⟩ = some (.string a.name) ∧ Hid (Below wr.heap.size wr w')) (by kernel_rfl) HSD (fun hHeld => ?_)
        refine wpAnyH_take (i := 0) (v := .bool true) rfl (by kernel_rfl) (by kernel_rfl) (by kernel_rfl) (fun _ _ _ h => h) (Or.inl ⟨by rfl, ?_⟩) hHeld ?_
        · intro w hSw
          try dsimp only at hSw
          go_simp
        simp only [Act.put, List.getElem_toArray, List.getElem_cons_zero, List.setIfInBounds_toArray, List.set_cons_succ, List.set_cons_zero]
        refine wpAnyH_take (i := 1) (v := .bool false) rfl (by kernel_rfl) (by kernel_rfl) (by kernel_rfl) (fun _ _ _ h => h) (Or.inl ⟨by rfl, ?_⟩) hHeld ?_
        · intro w hSw
          try dsimp only at hSw
          go_simp
        simp only [Act.put, List.getElem_toArray, List.getElem_cons_succ, List.getElem_cons_zero, List.setIfInBounds_toArray, List.set_cons_succ, List.set_cons_zero]
        refine wpAnyH_take (i := 2) (v := .bool false) rfl (by kernel_rfl) (by kernel_rfl) (by kernel_rfl) (fun _ _ _ h => h) (Or.inl ⟨by rfl, ?_⟩) hHeld ?_
        · intro w hSw
          try dsimp only at hSw
          go_simp
        simp only [Act.put, List.getElem_toArray, List.getElem_cons_succ, List.getElem_cons_zero, List.setIfInBounds_toArray, List.set_cons_succ, List.set_cons_zero]
        refine wpAnyH_take (i := 3) (v := undef) rfl (by kernel_rfl) (by kernel_rfl) (by kernel_rfl) (fun _ _ _ h => h) (Or.inr ⟨by rfl, rfl⟩) hHeld ?_
        simp only [Act.put, List.getElem_toArray, List.getElem_cons_succ, List.getElem_cons_zero, List.setIfInBounds_toArray, List.set_cons_succ, List.set_cons_zero]
        refine wpAnyH_take (i := 4) (v := undef) rfl (by kernel_rfl) (by kernel_rfl) (by kernel_rfl) (fun _ _ _ h => h) (Or.inr ⟨by rfl, rfl⟩) hHeld ?_
        simp only [Act.put, List.getElem_toArray, List.getElem_cons_succ, List.getElem_cons_zero, List.setIfInBounds_toArray, List.set_cons_succ, List.set_cons_zero]
        refine wpAnyH_take (i := 5) (v := undef) rfl (by kernel_rfl) (by kernel_rfl) (by kernel_rfl) (fun _ _ _ h => h) (Or.inr ⟨by rfl, rfl⟩) hHeld ?_
        simp only [Act.put, List.getElem_toArray, List.getElem_cons_succ, List.getElem_cons_zero, List.setIfInBounds_toArray, List.set_cons_succ, List.set_cons_zero]
        refine wpAnyH_take (i := 6) (v := undef) rfl (by kernel_rfl) (by kernel_rfl) (by kernel_rfl) (fun _ _ _ h => h) (Or.inr ⟨by rfl, rfl⟩) hHeld ?_
        simp only [Act.put, List.getElem_toArray, List.getElem_cons_succ, List.getElem_cons_zero, List.setIfInBounds_toArray, List.set_cons_succ, List.set_cons_zero]
        refine wpAnyH_take (i := 7) (v := undef) rfl (by kernel_rfl) (by kernel_rfl) (by kernel_rfl) (fun _ _ _ h => h) (Or.inr ⟨by rfl, rfl⟩) hHeld ?_
        simp only [Act.put, List.getElem_toArray, List.getElem_cons_succ, List.getElem_cons_zero, List.setIfInBounds_toArray, List.set_cons_succ, List.set_cons_zero]
        refine wpAnyH_take (i := 8) (v := undef) rfl (by kernel_rfl) (by kernel_rfl) (by kernel_rfl) (fun _ _ _ h => h) (Or.inr ⟨by rfl, rfl⟩) hHeld ?_
        simp only [Act.put, List.getElem_toArray, List.getElem_cons_succ, List.getElem_cons_zero, List.setIfInBounds_toArray, List.set_cons_succ, List.set_cons_zero]
        refine wpAnyH_take (i := 9) (v := undef) rfl (by kernel_rfl) (by kernel_rfl) (by kernel_rfl) (fun _ _ _ h => h) (Or.inr ⟨by rfl, rfl⟩) hHeld ?_
        simp only [Act.put, List.getElem_toArray, List.getElem_cons_succ, List.getElem_cons_zero, List.setIfInBounds_toArray, List.set_cons_succ, List.set_cons_zero]
        refine wpAnyH_take (i := 10) (v := undef) rfl (by kernel_rfl) (by kernel_rfl) (by kernel_rfl) (fun _ _ _ h => h) (Or.inr ⟨by rfl, rfl⟩) hHeld ?_
        simp only [Act.put, List.getElem_toArray, List.getElem_cons_succ, List.getElem_cons_zero, List.setIfInBounds_toArray, List.set_cons_succ, List.set_cons_zero]
        refine wpAnyH_take (i := 11) (v := .bool false) rfl (by kernel_rfl) (by kernel_rfl) (by kernel_rfl) (fun _ _ _ h => h) (Or.inl ⟨by rfl, ?_⟩) hHeld ?_
        · intro w hSw
          try dsimp only at hSw
          go_simp
        simp only [Act.put, List.getElem_toArray, List.getElem_cons_succ, List.getElem_cons_zero, List.setIfInBounds_toArray, List.set_cons_succ, List.set_cons_zero]
        clear hHeld HSD
        refine wpAnyH_done (by kernel_rfl) ?_ _
        have BEL1 := Lib.hid (BEL.out.trans ((Below.refl wr.heap.size wr).drew.mono BEL.out.size))
        have OWN1 := Lib.hid (own6_kept OWN.out (fun k _ hk => (Below.refl wr.heap.size wr).drew.block k hk))
        clear BEL OWN
        generalize wr.drew = w1 at BEL1 OWN1 ⊢
        by_cases he : x.name = a.name
        · have hbe : (x.name.toList == a.name.toList) = true := by rw [he]; simp
          go_upto_region 9 with fail
          have HSD : w1.drew.cell? ⟨bk, o + q * 6, none⟩ = some (.string x.name) ∧ w1.drew.cell? ⟨D, 0, none⟩ = some (.string a.name) ∧ Hid (Below w1.heap.size w1 w1.drew) := ⟨(E0.out.below BEL1.out).c0, (cells6 ((BEL1.out.block _ (lt_of_block T0.out)).trans T0.out)).1, (Below.refl w1.heap.size w1).drew⟩
          refine wp_region_held_drew (S := fun w' => w'.cell? ⟨bk, o + q * 6, none⟩ = some (.string x.name) ∧ w'.cell? ⟨D, 0, none⟩ = some (.string a.name) ∧ Hid (Below w1.heap.size w1 w')) (by kernel_rfl) HSD (fun hHeld => ?_)
          refine wpAnyH_take (i := 0) (v := .slice (some ⟨bk, o, none⟩) l.length c) rfl (by kernel_rfl) (by kernel_rfl) (by kernel_rfl) (fun _ _ _ h => h) (Or.inl ⟨by rfl, ?_⟩) hHeld ?_
          · intro w hSw
            try dsimp only at hSw
            go_simp
          simp only [Act.put, List.getElem_toArray, List.getElem_cons_zero, List.setIfInBounds_toArray, List.set_cons_succ, List.set_cons_zero]
          refine wpAnyH_take (i := 1) (v := .int .i64 (q : Int)) rfl (by kernel_rfl) (by kernel_rfl) (by kernel_rfl) (fun _ _ _ h => h) (Or.inl ⟨by rfl, ?_⟩) hHeld ?_
          · intro w hSw
            try dsimp only at hSw
            go_simp
          simp only [Act.put, List.getElem_toArray, List.getElem_cons_succ, List.getElem_cons_zero, List.setIfInBounds_toArray, List.set_cons_succ, List.set_cons_zero]
          refine wpAnyH_take (i := 2) (v := .pointer (some ⟨bk, o + q * 6, none⟩)) rfl (by kernel_rfl) (by kernel_rfl) (by kernel_rfl) (fun _ _ _ h => h) (Or.inl ⟨by rfl, ?_⟩) hHeld ?_
          · intro w hSw
            try dsimp only at hSw
            go_simp
          simp only [Act.put, List.getElem_toArray, List.getElem_cons_succ, List.getElem_cons_zero, List.setIfInBounds_toArray, List.set_cons_succ, List.set_cons_zero]
          refine wpAnyH_take (i := 3) (v := .pointer (some ⟨bk, o + q * 6, none⟩)) rfl (by kernel_rfl) (by kernel_rfl) (by kernel_rfl) (fun _ _ _ h => h) (Or.inl ⟨by rfl, ?_⟩) hHeld ?_
          · intro w hSw
            try dsimp only at hSw
            go_simp
          simp only [Act.put, List.getElem_toArray, List.getElem_cons_succ, List.getElem_cons_zero, List.setIfInBounds_toArray, List.set_cons_succ, List.set_cons_zero]
          refine wpAnyH_take (i := 4) (v := .string x.name) rfl (by kernel_rfl) (by kernel_rfl) (by kernel_rfl) (fun _ _ _ h => h) (Or.inl ⟨by rfl, ?_⟩) hHeld ?_
          · intro w hSw
            try dsimp only at hSw
            go_simp
          simp only [Act.put, List.getElem_toArray, List.getElem_cons_succ, List.getElem_cons_zero, List.setIfInBounds_toArray, List.set_cons_succ, List.set_cons_zero]
          refine wpAnyH_take (i := 5) (v := .pointer (some ⟨D, 0, none⟩)) rfl (by kernel_rfl) (by kernel_rfl) (by kernel_rfl) (fun _ _ _ h => h) (Or.inl ⟨by rfl, ?_⟩) hHeld ?_
          · intro w hSw
            try dsimp only at hSw
            go_simp
          simp only [Act.put, List.getElem_toArray, List.getElem_cons_succ, List.getElem_cons_zero, List.setIfInBounds_toArray, List.set_cons_succ, List.set_cons_zero]
          refine wpAnyH_take (i := 6) (v := .string a.name) rfl (by kernel_rfl) (by kernel_rfl) (by kernel_rfl) (fun _ _ _ h => h) (Or.inl ⟨by rfl, ?_⟩) hHeld ?_
          · intro w hSw
            try dsimp only at hSw
            go_simp
          simp only [Act.put, List.getElem_toArray, List.getElem_cons_succ, List.getElem_cons_zero, List.setIfInBounds_toArray, List.set_cons_succ, List.set_cons_zero]
          refine wpAnyH_take (i := 7) (v := .bool false) rfl (by kernel_rfl) (by kernel_rfl) (by kernel_rfl) (fun _ _ _ h => h) (Or.inl ⟨by rfl, ?_⟩) hHeld ?_
          · intro w hSw
            try dsimp only at hSw
            go_simp
          simp only [Act.put, List.getElem_toArray, List.getElem_cons_succ, List.getElem_cons_zero, List.setIfInBounds_toArray, List.set_cons_succ, List.set_cons_zero]
          clear hHeld HSD
          refine wpAnyH_done (by kernel_rfl) ?_ _
          have BEL2 := Lib.hid (BEL1.out.trans ((Below.refl w1.heap.size w1).drew.mono BEL1.out.size))
          have OWN2 := Lib.hid (own6_kept OWN1.out (fun k _ hk => (Below.refl w1.heap.size w1).drew.block k hk))
          clear BEL1 OWN1
          generalize w1.drew = w2 at BEL2 OWN2 ⊢
          go_wp2_with fail
          go_roundw
          case rel => exact ⟨q + 1, true, xo, rc, es, by have := HQ.out; omega, by go_num, rfl, rfl, ⟨OWN2.out, by have h := HT.out; rw [if_pos he] at h; simpa using h, OK.out, BEL2.out, by have := FEW.out; omega, fun h => by cases h⟩⟩
          case measure => have := HQ.out; simp only [intOf]; omega
        · have hbe : (x.name.toList == a.name.toList) = false := ne_beq he
          go_upto_region 9 with fail
          have HSD : w1.drew.cell? ⟨bk, o + q * 6, none⟩ = some (.string x.name) ∧ w1.drew.cell? ⟨D, 0, none⟩ = some (.string a.name) ∧ Hid (Below w1.heap.size w1 w1.drew) := ⟨(E0.out.below BEL1.out).c0, (cells6 ((BEL1.out.block _ (lt_of_block T0.out)).trans T0.out)).1, (Below.refl w1.heap.size w1).drew⟩
          refine wp_region_held_drew (S := fun w' => w'.cell? ⟨bk, o + q * 6, none⟩ = some (.string x.name) ∧ w'.cell? ⟨D, 0, none⟩ = some (.string a.name) ∧ Hid (Below w1.heap.size w1 w')) (by kernel_rfl) HSD (fun hHeld => ?_)
          refine wpAnyH_take (i := 0) (v := .slice (some ⟨bk, o, none⟩) l.length c) rfl (by kernel_rfl) (by kernel_rfl) (by kernel_rfl) (fun _ _ _ h => h) (Or.inl ⟨by rfl, ?_⟩) hHeld ?_
          · intro w hSw
            try dsimp only at hSw
            go_simp
          simp only [Act.put, List.getElem_toArray, List.getElem_cons_zero, List.setIfInBounds_toArray, List.set_cons_succ, List.set_cons_zero]
          refine wpAnyH_take (i := 1) (v := .int .i64 (q : Int)) rfl (by kernel_rfl) (by kernel_rfl) (by kernel_rfl) (fun _ _ _ h => h) (Or.inl ⟨by rfl, ?_⟩) hHeld ?_
          · intro w hSw
            try dsimp only at hSw
            go_simp
          simp only [Act.put, List.getElem_toArray, List.getElem_cons_succ, List.getElem_cons_zero, List.setIfInBounds_toArray, List.set_cons_succ, List.set_cons_zero]
          refine wpAnyH_take (i := 2) (v := .pointer (some ⟨bk, o + q * 6, none⟩)) rfl (by kernel_rfl) (by kernel_rfl) (by kernel_rfl) (fun _ _ _ h => h) (Or.inl ⟨by rfl, ?_⟩) hHeld ?_
          · intro w hSw
            try dsimp only at hSw
            go_simp
          simp only [Act.put, List.getElem_toArray, List.getElem_cons_succ, List.getElem_cons_zero, List.setIfInBounds_toArray, List.set_cons_succ, List.set_cons_zero]
          refine wpAnyH_take (i := 3) (v := .pointer (some ⟨bk, o + q * 6, none⟩)) rfl (by kernel_rfl) (by kernel_rfl) (by kernel_rfl) (fun _ _ _ h => h) (Or.inl ⟨by rfl, ?_⟩) hHeld ?_
          · intro w hSw
            try dsimp only at hSw
            go_simp
          simp only [Act.put, List.getElem_toArray, List.getElem_cons_succ, List.getElem_cons_zero, List.setIfInBounds_toArray, List.set_cons_succ, List.set_cons_zero]
          refine wpAnyH_take (i := 4) (v := .string x.name) rfl (by kernel_rfl) (by kernel_rfl) (by kernel_rfl) (fun _ _ _ h => h) (Or.inl ⟨by rfl, ?_⟩) hHeld ?_
          · intro w hSw
            try dsimp only at hSw
            go_simp
          simp only [Act.put, List.getElem_toArray, List.getElem_cons_succ, List.getElem_cons_zero, List.setIfInBounds_toArray, List.set_cons_succ, List.set_cons_zero]
          refine wpAnyH_take (i := 5) (v := .pointer (some ⟨D, 0, none⟩)) rfl (by kernel_rfl) (by kernel_rfl) (by kernel_rfl) (fun _ _ _ h => h) (Or.inl ⟨by rfl, ?_⟩) hHeld ?_
          · intro w hSw
            try dsimp only at hSw
            go_simp
          simp only [Act.put, List.getElem_toArray, List.getElem_cons_succ, List.getElem_cons_zero, List.setIfInBounds_toArray, List.set_cons_succ, List.set_cons_zero]
          refine wpAnyH_take (i := 6) (v := .string a.name) rfl (by kernel_rfl) (by kernel_rfl) (by kernel_rfl) (fun _ _ _ h => h) (Or.inl ⟨by rfl, ?_⟩) hHeld ?_
          · intro w hSw
            try dsimp only at hSw
            go_simp
          simp only [Act.put, List.getElem_toArray, List.getElem_cons_succ, List.getElem_cons_zero, List.setIfInBounds_toArray, List.set_cons_succ, List.set_cons_zero]
          refine wpAnyH_take (i := 7) (v := .bool true) rfl (by kernel_rfl) (by kernel_rfl) (by kernel_rfl) (fun _ _ _ h => h) (Or.inl ⟨by rfl, ?_⟩) hHeld ?_
          · intro w hSw
            try dsimp only at hSw
            go_simp
          simp only [Act.put, List.getElem_toArray, List.getElem_cons_succ, List.getElem_cons_zero, List.setIfInBounds_toArray, List.set_cons_succ, List.set_cons_zero]
          clear hHeld HSD
          refine wpAnyH_done (by kernel_rfl) ?_ _
          have BEL2 := Lib.hid (BEL1.out.trans ((Below.refl w1.heap.size w1).drew.mono BEL1.out.size))
          have OWN2 := Lib.hid (own6_kept OWN1.out (fun k _ hk => (Below.refl w1.heap.size w1).drew.block k hk))
          clear BEL1 OWN1
          generalize w1.drew = w2 at BEL2 OWN2 ⊢
          have HB := Lib.hid (show w0.heap.size ≤ w2.heap.size from BEL2.out.size)
          have H3 := Lib.hid (show es.length ≤ 2000 by have := FEW.out; omega)
          obtain ⟨y0, y1, y2, y3, y4, y5⟩ := el_cells (E0.out.below BEL2.out)
          go_wp2_with (at_builtin; refine wp_append_one (e := ⟨x, bi, bci, bo, bct⟩) rfl _ _ rfl OWN2.out HB.out H3.out rfl rfl ?_; intro xo3 rc3 w3 hown hbel; have OWN3 := Lib.hid hown; have HBEL := Lib.hid hbel; clear hown hbel)
          go_roundw
          case rel => exact ⟨q + 1, true, xo3, rc3, es ++ [⟨x, bi, bci, bo, bct⟩], by have := HQ.out; omega, by go_num, rfl, by rw [List.length_append, List.length_singleton], ⟨OWN3.out, by have h := HT.out; rw [if_neg he] at h; simpa using h, ok_snoc OK.out OKX.out, BEL2.out.trans HBEL.out, by have := FEW.out; rw [List.length_append, List.length_singleton]; omega, fun h => by cases h⟩⟩
          case measure => have := HQ.out; simp only [intOf]; omega
      | false =>
        cases hls : Op.bytesLess x.name.toList a.name.toList with
        | true =>
          have hlb : lessB x.name a.name = true := hls
          have he : ¬ x.name = a.name := fun e => by rw [e, lessB_irrefl] at hlb; cases hlb
          have hbe : (x.name.toList == a.name.toList) = false := ne_beq he
          go_upto_region 6 with fail
          have HSD : wr.drew.cell? ⟨bk, o + q * 6, none⟩ = some (.string x.name) ∧ wr.drew.cell? ⟨D, 0, none⟩ = some (.string a.name) ∧ Hid (Below wr.heap.size wr wr.drew) := ⟨(E0.out.below BEL.out).c0, (cells6 ((BEL.out.block _ (lt_of_block T0.out)).trans T0.out)).1, (Below.refl wr.heap.size wr).drew⟩
          refine wp_region_held_drew (S := fun w' => w'.cell? ⟨bk, o + q * 6, none⟩ = some (.string x.name) ∧ w'.cell? ⟨D, 0, none⟩ = some (.string a.name) ∧ Hid (Below wr.heap.size wr w')) (by kernel_rfl) HSD (fun hHeld => ?_)
          refine wpAnyH_take (i := 0) (v := .bool false) rfl (by kernel_rfl) (by kernel_rfl) (by kernel_rfl) (fun _ _ _ h => h) (Or.inl ⟨by rfl, ?_⟩) hHeld ?_
          · intro w hSw
            try dsimp only at hSw
            go_simp
          simp only [Act.put, List.getElem_toArray, List.getElem_cons_zero, List.setIfInBounds_toArray, List.set_cons_succ, List.set_cons_zero]
          refine wpAnyH_take (i := 1) (v := .bool true) rfl (by kernel_rfl) (by kernel_rfl) (by kernel_rfl) (fun _ _ _ h => h) (Or.inl ⟨by rfl, ?_⟩) hHeld ?_
          · intro w hSw
            try dsimp only at hSw
            go_simp
          simp only [Act.put, List.getElem_toArray, List.getElem_cons_succ, List.getElem_cons_zero, List.setIfInBounds_toArray, List.set_cons_succ, List.set_cons_zero]
          refine wpAnyH_take (i := 2) (v := .bool true) rfl (by kernel_rfl) (by kernel_rfl) (by kernel_rfl) (fun _ _ _ h => h) (Or.inl ⟨by rfl, ?_⟩) hHeld ?_
          · intro w hSw
            try dsimp only at hSw
            go_simp
          simp only [Act.put, List.getElem_toArray, List.getElem_cons_succ, List.getElem_cons_zero, List.setIfInBounds_toArray, List.set_cons_succ, List.set_cons_zero]
          refine wpAnyH_take (i := 3) (v := .slice (some ⟨bk, o, none⟩) l.length c) rfl (by kernel_rfl) (by kernel_rfl) (by kernel_rfl) (fun _ _ _ h => h) (Or.inl ⟨by rfl, ?_⟩) hHeld ?_
          · intro w hSw
            try dsimp only at hSw
            go_simp
          simp only [Act.put, List.getElem_toArray, List.getElem_cons_succ, List.getElem_cons_zero, List.setIfInBounds_toArray, List.set_cons_succ, List.set_cons_zero]
          refine wpAnyH_take (i := 4) (v := .int .i64 (q : Int)) rfl (by kernel_rfl) (by kernel_rfl) (by kernel_rfl) (fun _ _ _ h => h) (Or.inl ⟨by rfl, ?_⟩) hHeld ?_
          · intro w hSw
            try dsimp only at hSw
            go_simp
          simp only [Act.put, List.getElem_toArray, List.getElem_cons_succ, List.getElem_cons_zero, List.setIfInBounds_toArray, List.set_cons_succ, List.set_cons_zero]
          refine wpAnyH_take (i := 5) (v := .pointer (some ⟨bk, o + q * 6, none⟩)) rfl (by kernel_rfl) (by kernel_rfl) (by kernel_rfl) (fun _ _ _ h => h) (Or.inl ⟨by rfl, ?_⟩) hHeld ?_
          · intro w hSw
            try dsimp only at hSw
            go_simp
          simp only [Act.put, List.getElem_toArray, List.getElem_cons_succ, List.getElem_cons_zero, List.setIfInBounds_toArray, List.set_cons_succ, List.set_cons_zero]
          refine wpAnyH_take (i := 6) (v := .pointer (some ⟨bk, o + q * 6, none⟩)) rfl (by kernel_rfl) (by kernel_rfl) (by kernel_rfl) (fun _ _ _ h => h) (Or.inl ⟨by rfl, ?_⟩) hHeld ?_
          · intro w hSw
            try dsimp only at hSw
            go_simp
          simp only [Act.put, List.getElem_toArray, List.getElem_cons_succ, List.getElem_cons_zero, List.setIfInBounds_toArray, List.set_cons_succ, List.set_cons_zero]
          refine wpAnyH_take (i := 7) (v := .string x.name) rfl (by kernel_rfl) (by kernel_rfl) (by kernel_rfl) (fun _ _ _ h => h) (Or.inl ⟨by rfl, ?_⟩) hHeld ?_
          · intro w hSw
            try dsimp only at hSw
            go_simp
          simp only [Act.put, List.getElem_toArray, List.getElem_cons_succ, List.getElem_cons_zero, List.setIfInBounds_toArray, List.set_cons_succ, List.set_cons_zero]
          refine wpAnyH_take (i := 8) (v := .pointer (some ⟨D, 0, none⟩)) rfl (by kernel_rfl) (by kernel_rfl) (by kernel_rfl) (fun _ _ _ h => h) (Or.inl ⟨by rfl, ?_⟩) hHeld ?_
          · intro w hSw
            try dsimp only at hSw
            go_simp
          simp only [Act.put, List.getElem_toArray, List.getElem_cons_succ, List.getElem_cons_zero, List.setIfInBounds_toArray, List.set_cons_succ, List.set_cons_zero]
          refine wpAnyH_take (i := 9) (v := .string a.name) rfl (by kernel_rfl) (by kernel_rfl) (by kernel_rfl) (fun _ _ _ h => h) (Or.inl ⟨by rfl, ?_⟩) hHeld ?_
          · intro w hSw
            try dsimp only at hSw
            go_simp
          simp only [Act.put, List.getElem_toArray, List.getElem_cons_succ, List.getElem_cons_zero, List.setIfInBounds_toArray, List.set_cons_succ, List.set_cons_zero]
          refine wpAnyH_take (i := 10) (v := .bool false) rfl (by kernel_rfl) (by kernel_rfl) (by kernel_rfl) (fun _ _ _ h => h) (Or.inl ⟨by rfl, ?_⟩) hHeld ?_
          · intro w hSw
            try dsimp only at hSw
            go_simp
          simp only [Act.put, List.getElem_toArray, List.getElem_cons_succ, List.getElem_cons_zero, List.setIfInBounds_toArray, List.set_cons_succ, List.set_cons_zero]
          refine wpAnyH_take (i := 11) (v := .bool false) rfl (by kernel_rfl) (by kernel_rfl) (by kernel_rfl) (fun _ _ _ h => h) (Or.inl ⟨by rfl, ?_⟩) hHeld ?_
          · intro w hSw
            try dsimp only at hSw
            go_simp
          simp only [Act.put, List.getElem_toArray, List.getElem_cons_succ, List.getElem_cons_zero, List.setIfInBounds_toArray, List.set_cons_succ, List.set_cons_zero]
          clear hHeld HSD
          refine wpAnyH_done (by kernel_rfl) ?_ _
          have BEL1 := Lib.hid (BEL.out.trans ((Below.refl wr.heap.size wr).drew.mono BEL.out.size))
          have OWN1 := Lib.hid (own6_kept OWN.out (fun k _ hk => (Below.refl wr.heap.size wr).drew.block k hk))
          clear BEL OWN
          generalize wr.drew = w1 at BEL1 OWN1 ⊢
          go_upto_region 9 with fail
          have HSD : w1.drew.cell? ⟨bk, o + q * 6, none⟩ = some (.string x.name) ∧ w1.drew.cell? ⟨D, 0, none⟩ = some (.string a.name) ∧ Hid (Below w1.heap.size w1 w1.drew) := ⟨(E0.out.below BEL1.out).c0, (cells6 ((BEL1.out.block _ (lt_of_block T0.out)).trans T0.out)).1, (Below.refl w1.heap.size w1).drew⟩
          refine wp_region_held_drew (S := fun w' => w'.cell? ⟨bk, o + q * 6, none⟩ = some (.string x.name) ∧ w'.cell? ⟨D, 0, none⟩ = some (.string a.name) ∧ Hid (Below w1.heap.size w1 w')) (by kernel_rfl) HSD (fun hHeld => ?_)
          refine wpAnyH_take (i := 0) (v := .slice (some ⟨bk, o, none⟩) l.length c) rfl (by kernel_rfl) (by kernel_rfl) (by kernel_rfl) (fun _ _ _ h => h) (Or.inl ⟨by rfl, ?_⟩) hHeld ?_
          · intro w hSw
            try dsimp only at hSw
            go_simp
          simp only [Act.put, List.getElem_toArray, List.getElem_cons_zero, List.setIfInBounds_toArray, List.set_cons_succ, List.set_cons_zero]
          refine wpAnyH_take (i := 1) (v := .int .i64 (q : Int)) rfl (by kernel_rfl) (by kernel_rfl) (by kernel_rfl) (fun _ _ _ h => h) (Or.inl ⟨by rfl, ?_⟩) hHeld ?_
          · intro w hSw
            try dsimp only at hSw
            go_simp
          simp only [Act.put, List.getElem_toArray, List.getElem_cons_succ, List.getElem_cons_zero, List.setIfInBounds_toArray, List.set_cons_succ, List.set_cons_zero]
          refine wpAnyH_take (i := 2) (v := .pointer (some ⟨bk, o + q * 6, none⟩)) rfl (by kernel_rfl) (by kernel_rfl) (by kernel_rfl) (fun _ _ _ h => h) (Or.inl ⟨by rfl, ?_⟩) hHeld ?_
          · intro w hSw
            try dsimp only at hSw
            go_simp
          simp only [Act.put, List.getElem_toArray, List.getElem_cons_succ, List.getElem_cons_zero, List.setIfInBounds_toArray, List.set_cons_succ, List.set_cons_zero]
          refine wpAnyH_take (i := 3) (v := .pointer (some ⟨bk, o + q * 6, none⟩)) rfl (by kernel_rfl) (by kernel_rfl) (by kernel_rfl) (fun _ _ _ h => h) (Or.inl ⟨by rfl, ?_⟩) hHeld ?_
          · intro w hSw
            try dsimp only at hSw
            go_simp
          simp only [Act.put, List.getElem_toArray, List.getElem_cons_succ, List.getElem_cons_zero, List.setIfInBounds_toArray, List.set_cons_succ, List.set_cons_zero]
          refine wpAnyH_take (i := 4) (v := .string x.name) rfl (by kernel_rfl) (by kernel_rfl) (by kernel_rfl) (fun _ _ _ h => h) (Or.inl ⟨by rfl, ?_⟩) hHeld ?_
          · intro w hSw
            try dsimp only at hSw
            go_simp
          simp only [Act.put, List.getElem_toArray, List.getElem_cons_succ, List.getElem_cons_zero, List.setIfInBounds_toArray, List.set_cons_succ, List.set_cons_zero]
          refine wpAnyH_take (i := 5) (v := .pointer (some ⟨D, 0, none⟩)) rfl (by kernel_rfl) (by kernel_rfl) (by kernel_rfl) (fun _ _ _ h => h) (Or.inl ⟨by rfl, ?_⟩) hHeld ?_
          · intro w hSw
            try dsimp only at hSw
            go_simp
          simp only [Act.put, List.getElem_toArray, List.getElem_cons_succ, List.getElem_cons_zero, List.setIfInBounds_toArray, List.set_cons_succ, List.set_cons_zero]
          refine wpAnyH_take (i := 6) (v := .string a.name) rfl (by kernel_rfl) (by kernel_rfl) (by kernel_rfl) (fun _ _ _ h => h) (Or.inl ⟨by rfl, ?_⟩) hHeld ?_
          · intro w hSw
            try dsimp only at hSw
            go_simp
          simp only [Act.put, List.getElem_toArray, List.getElem_cons_succ, List.getElem_cons_zero, List.setIfInBounds_toArray, List.set_cons_succ, List.set_cons_zero]
          refine wpAnyH_take (i := 7) (v := .bool true) rfl (by kernel_rfl) (by kernel_rfl) (by kernel_rfl) (fun _ _ _ h => h) (Or.inl ⟨by rfl, ?_⟩) hHeld ?_
          · intro w hSw
            try dsimp only at hSw
            go_simp
          simp only [Act.put, List.getElem_toArray, List.getElem_cons_succ, List.getElem_cons_zero, List.setIfInBounds_toArray, List.set_cons_succ, List.set_cons_zero]
          clear hHeld HSD
          refine wpAnyH_done (by kernel_rfl) ?_ _
          have BEL2 := Lib.hid (BEL1.out.trans ((Below.refl w1.heap.size w1).drew.mono BEL1.out.size))
          have OWN2 := Lib.hid (own6_kept OWN1.out (fun k _ hk => (Below.refl w1.heap.size w1).drew.block k hk))
          clear BEL1 OWN1
          generalize w1.drew = w2 at BEL2 OWN2 ⊢
          have HB := Lib.hid (show w0.heap.size ≤ w2.heap.size from BEL2.out.size)
          have H3 := Lib.hid (show es.length ≤ 2000 by have := FEW.out; omega)
          obtain ⟨y0, y1, y2, y3, y4, y5⟩ := el_cells (E0.out.below BEL2.out)
          go_wp2_with (at_builtin; refine wp_append_one (e := ⟨x, bi, bci, bo, bct⟩) rfl _ _ rfl OWN2.out HB.out H3.out rfl rfl ?_; intro xo3 rc3 w3 hown hbel; have OWN3 := Lib.hid hown; have HBEL := Lib.hid hbel; clear hown hbel)
          go_roundw
          case rel => exact ⟨q + 1, false, xo3, rc3, es ++ [⟨x, bi, bci, bo, bct⟩], by have := HQ.out; omega, by go_num, rfl, by rw [List.length_append, List.length_singleton], ⟨OWN3.out, by have h := HT.out; rw [if_neg he, hlb] at h; simpa using h, ok_snoc OK.out OKX.out, BEL2.out.trans HBEL.out, by have := FEW.out; rw [List.length_append, List.length_singleton]; omega, fun _ => by have := FEW'.out rfl; rw [List.length_append, List.length_singleton]; omega⟩⟩
          case measure => have := HQ.out; simp only [intOf]; omega
        | false =>
          have hlb : lessB x.name a.name = false := hls
          go_upto_region 6 with fail
          have HSD : wr.drew.cell? ⟨bk, o + q * 6, none⟩ = some (.string x.name) ∧ wr.drew.cell? ⟨D, 0, none⟩ = some (.string a.name) ∧ Hid (Below wr.heap.size wr wr.drew) := ⟨(E0.out.below BEL.out).c0, (cells6 ((BEL.out.block _ (lt_of_block T0.out)).trans T0.out)).1, (Below.refl wr.heap.size wr).drew⟩
          refine wp_region_held_drew (S := fun w' => w'.cell? ⟨bk, o + q * 6, none⟩ = some (.string x.name) ∧ w'.cell? ⟨D, 0, none⟩ = some (.string a.name) ∧ Hid (Below wr.heap.size wr w')) (by kernel_rfl) HSD (fun hHeld => ?_)
          refine wpAnyH_take (i := 0) (v := .bool false) rfl (by kernel_rfl) (by kernel_rfl) (by kernel_rfl) (fun _ _ _ h => h) (Or.inl ⟨by rfl, ?_⟩) hHeld ?_
          · intro w hSw
            try dsimp only at hSw
            go_simp
          simp only [Act.put, List.getElem_toArray, List.getElem_cons_zero, List.setIfInBounds_toArray, List.set_cons_succ, List.set_cons_zero]
          refine wpAnyH_take (i := 1) (v := .bool true) rfl (by kernel_rfl) (by kernel_rfl) (by kernel_rfl) (fun _ _ _ h => h) (Or.inl ⟨by rfl, ?_⟩) hHeld ?_
          · intro w hSw
            try dsimp only at hSw
            go_simp
          simp only [Act.put, List.getElem_toArray, List.getElem_cons_succ, List.getElem_cons_zero, List.setIfInBounds_toArray, List.set_cons_succ, List.set_cons_zero]
          refine wpAnyH_take (i := 2) (v := .bool true) rfl (by kernel_rfl) (by kernel_rfl) (by kernel_rfl) (fun _ _ _ h => h) (Or.inl ⟨by rfl, ?_⟩) hHeld ?_
          · intro w hSw
            try dsimp only at hSw
            go_simp
          simp only [Act.put, List.getElem_toArray, List.getElem_cons_succ, List.getElem_cons_zero, List.setIfInBounds_toArray, List.set_cons_succ, List.set_cons_zero]
          refine wpAnyH_take (i := 3) (v := .slice (some ⟨bk, o, none⟩) l.length c) rfl (by kernel_rfl) (by kernel_rfl) (by kernel_rfl) (fun _ _ _ h => h) (Or.inl ⟨by rfl, ?_⟩) hHeld ?_
          · intro w hSw
            try dsimp only at hSw
            go_simp
          simp only [Act.put, List.getElem_toArray, List.getElem_cons_succ, List.getElem_cons_zero, List.setIfInBounds_toArray, List.set_cons_succ, List.set_cons_zero]
          refine wpAnyH_take (i := 4) (v := .int .i64 (q : Int)) rfl (by kernel_rfl) (by kernel_rfl) (by kernel_rfl) (fun _ _ _ h => h) (Or.inl ⟨by rfl, ?_⟩) hHeld ?_
          · intro w hSw
            try dsimp only at hSw
            go_simp
          simp only [Act.put, List.getElem_toArray, List.getElem_cons_succ, List.getElem_cons_zero, List.setIfInBounds_toArray, List.set_cons_succ, List.set_cons_zero]
          refine wpAnyH_take (i := 5) (v := .pointer (some ⟨bk, o + q * 6, none⟩)) rfl (by kernel_rfl) (by kernel_rfl) (by kernel_rfl) (fun _ _ _ h => h) (Or.inl ⟨by rfl, ?_⟩) hHeld ?_
          · intro w hSw
            try dsimp only at hSw
            go_simp
          simp only [Act.put, List.getElem_toArray, List.getElem_cons_succ, List.getElem_cons_zero, List.setIfInBounds_toArray, List.set_cons_succ, List.set_cons_zero]
          refine wpAnyH_take (i := 6) (v := .pointer (some ⟨bk, o + q * 6, none⟩)) rfl (by kernel_rfl) (by kernel_rfl) (by kernel_rfl) (fun _ _ _ h => h) (Or.inl ⟨by rfl, ?_⟩) hHeld ?_
          · intro w hSw
            try dsimp only at hSw
            go_simp
          simp only [Act.put, List.getElem_toArray, List.getElem_cons_succ, List.getElem_cons_zero, List.setIfInBounds_toArray, List.set_cons_succ, List.set_cons_zero]
          refine wpAnyH_take (i := 7) (v := .string x.name) rfl (by kernel_rfl) (by kernel_rfl) (by kernel_rfl) (fun _ _ _ h => h) (Or.inl ⟨by rfl, ?_⟩) hHeld ?_
          · intro w hSw
            try dsimp only at hSw
            go_simp
          simp only [Act.put, List.getElem_toArray, List.getElem_cons_succ, List.getElem_cons_zero, List.setIfInBounds_toArray, List.set_cons_succ, List.set_cons_zero]
          refine wpAnyH_take (i := 8) (v := .pointer (some ⟨D, 0, none⟩)) rfl (by kernel_rfl) (by kernel_rfl) (by kernel_rfl) (fun _ _ _ h => h) (Or.inl ⟨by rfl, ?_⟩) hHeld ?_
          · intro w hSw
            try dsimp only at hSw
            go_simp
          simp only [Act.put, List.getElem_toArray, List.getElem_cons_succ, List.getElem_cons_zero, List.setIfInBounds_toArray, List.set_cons_succ, List.set_cons_zero]
          refine wpAnyH_take (i := 9) (v := .string a.name) rfl (by kernel_rfl) (by kernel_rfl) (by kernel_rfl) (fun _ _ _ h => h) (Or.inl ⟨by rfl, ?_⟩) hHeld ?_
          · intro w hSw
            try dsimp only at hSw
            go_simp
          simp only [Act.put, List.getElem_toArray, List.getElem_cons_succ, List.getElem_cons_zero, List.setIfInBounds_toArray, List.set_cons_succ, List.set_cons_zero]
          refine wpAnyH_take (i := 10) (v := .bool true) rfl (by kernel_rfl) (by kernel_rfl) (by kernel_rfl) (fun _ _ _ h => h) (Or.inl ⟨by rfl, ?_⟩) hHeld ?_
          · intro w hSw
            try dsimp only at hSw
            go_simp
          simp only [Act.put, List.getElem_toArray, List.getElem_cons_succ, List.getElem_cons_zero, List.setIfInBounds_toArray, List.set_cons_succ, List.set_cons_zero]
          refine wpAnyH_take (i := 11) (v := .bool true) rfl (by kernel_rfl) (by kernel_rfl) (by kernel_rfl) (fun _ _ _ h => h) (Or.inl ⟨by rfl, ?_⟩) hHeld ?_
          · intro w hSw
            try dsimp only at hSw
            go_simp
          simp only [Act.put, List.getElem_toArray, List.getElem_cons_succ, List.getElem_cons_zero, List.setIfInBounds_toArray, List.set_cons_succ, List.set_cons_zero]
          clear hHeld HSD
          refine wpAnyH_done (by kernel_rfl) ?_ _
          have BEL1 := Lib.hid (BEL.out.trans ((Below.refl wr.heap.size wr).drew.mono BEL.out.size))
          have OWN1 := Lib.hid (own6_kept OWN.out (fun k _ hk => (Below.refl wr.heap.size wr).drew.block k hk))
          clear BEL OWN
          generalize wr.drew = w1 at BEL1 OWN1 ⊢
          have HB := Lib.hid (show w0.heap.size ≤ w1.heap.size from BEL1.out.size)
          have H3 := Lib.hid (show es.length ≤ 2000 by have := FEW.out; omega)
          obtain ⟨y0, y1, y2, y3, y4, y5, yf⟩ := cells6 ((BEL1.out.block _ (lt_of_block T0.out)).trans T0.out)
          go_upto_region 9 with (at_builtin; refine wp_append_one (e := ⟨a, ai, ci, ao, ct⟩) rfl _ _ rfl OWN1.out HB.out H3.out rfl rfl ?_; intro xo3 rc3 w3 hown hbel; have OWN3 := Lib.hid hown; have HBEL := Lib.hid hbel; clear hown hbel)
          have BEL3 := Lib.hid (BEL1.out.trans HBEL.out)
          clear BEL1 OWN1 HBEL HB H3 y0 y1 y2 y3 y4 y5 yf
          rw [show es.length + 1 = (es ++ [⟨a, ai, ci, ao, ct⟩] : List El).length by simp]
          have OK3 := Lib.hid (ok_snoc OK.out OKA.out)
          have FEW3 := Lib.hid (show (es ++ [⟨a, ai, ci, ao, ct⟩] : List El).length ≤ q + 1 by have := FEW'.out rfl; rw [List.length_append, List.length_singleton]; omega)
          have HT3 := Lib.hid (show (es ++ [⟨a, ai, ci, ao, ct⟩] : List El).map (fun x : El => x.a) ++ ((if x.name = a.name then [] else [x]) ++ setR a true (l.drop (q + 1))) = setR a false l by have h := HT.out; rw [hlb] at h; simpa using h)
          generalize (es ++ [⟨a, ai, ci, ao, ct⟩] : List El) = es3 at OK3 FEW3 HT3 OWN3 ⊢
          by_cases he : x.name = a.name
          · have hbe : (x.name.toList == a.name.toList) = true := by rw [he]; simp
            have HSD : w3.drew.cell? ⟨bk, o + q * 6, none⟩ = some (.string x.name) ∧ w3.drew.cell? ⟨D, 0, none⟩ = some (.string a.name) ∧ Hid (Below w3.heap.size w3 w3.drew) := ⟨(E0.out.below BEL3.out).c0, (cells6 ((BEL3.out.block _ (lt_of_block T0.out)).trans T0.out)).1, (Below.refl w3.heap.size w3).drew⟩
            refine wp_region_held_drew (S := fun w' => w'.cell? ⟨bk, o + q * 6, none⟩ = some (.string x.name) ∧ w'.cell? ⟨D, 0, none⟩ = some (.string a.name) ∧ Hid (Below w3.heap.size w3 w')) (by kernel_rfl) HSD (fun hHeld => ?_)
            refine wpAnyH_take (i := 0) (v := .slice (some ⟨bk, o, none⟩) l.length c) rfl (by kernel_rfl) (by kernel_rfl) (by kernel_rfl) (fun _ _ _ h => h) (Or.inl ⟨by rfl, ?_⟩) hHeld ?_
            · intro w hSw
              try dsimp only at hSw
              go_simp
            simp only [Act.put, List.getElem_toArray, List.getElem_cons_zero, List.setIfInBounds_toArray, List.set_cons_succ, List.set_cons_zero]
            refine wpAnyH_take (i := 1) (v := .int .i64 (q : Int)) rfl (by kernel_rfl) (by kernel_rfl) (by kernel_rfl) (fun _ _ _ h => h) (Or.inl ⟨by rfl, ?_⟩) hHeld ?_
            · intro w hSw
              try dsimp only at hSw
              go_simp
            simp only [Act.put, List.getElem_toArray, List.getElem_cons_succ, List.getElem_cons_zero, List.setIfInBounds_toArray, List.set_cons_succ, List.set_cons_zero]
            refine wpAnyH_take (i := 2) (v := .pointer (some ⟨bk, o + q * 6, none⟩)) rfl (by kernel_rfl) (by kernel_rfl) (by kernel_rfl) (fun _ _ _ h => h) (Or.inl ⟨by rfl, ?_⟩) hHeld ?_
            · intro w hSw
              try dsimp only at hSw
              go_simp
            simp only [Act.put, List.getElem_toArray, List.getElem_cons_succ, List.getElem_cons_zero, List.setIfInBounds_toArray, List.set_cons_succ, List.set_cons_zero]
            refine wpAnyH_take (i := 3) (v := .pointer (some ⟨bk, o + q * 6, none⟩)) rfl (by kernel_rfl) (by kernel_rfl) (by kernel_rfl) (fun _ _ _ h => h) (Or.inl ⟨by rfl, ?_⟩) hHeld ?_
            · intro w hSw
              try dsimp only at hSw
              go_simp
            simp only [Act.put, List.getElem_toArray, List.getElem_cons_succ, List.getElem_cons_zero, List.setIfInBounds_toArray, List.set_cons_succ, List.set_cons_zero]
            refine wpAnyH_take (i := 4) (v := .string x.name) rfl (by kernel_rfl) (by kernel_rfl) (by kernel_rfl) (fun _ _ _ h => h) (Or.inl ⟨by rfl, ?_⟩) hHeld ?_
            · intro w hSw
              try dsimp only at hSw
              go_simp
            simp only [Act.put, List.getElem_toArray, List.getElem_cons_succ, List.getElem_cons_zero, List.setIfInBounds_toArray, List.set_cons_succ, List.set_cons_zero]
            refine wpAnyH_take (i := 5) (v := .pointer (some ⟨D, 0, none⟩)) rfl (by kernel_rfl) (by kernel_rfl) (by kernel_rfl) (fun _ _ _ h => h) (Or.inl ⟨by rfl, ?_⟩) hHeld ?_
            · intro w hSw
              try dsimp only at hSw
              go_simp
            simp only [Act.put, List.getElem_toArray, List.getElem_cons_succ, List.getElem_cons_zero, List.setIfInBounds_toArray, List.set_cons_succ, List.set_cons_zero]
            refine wpAnyH_take (i := 6) (v := .string a.name) rfl (by kernel_rfl) (by kernel_rfl) (by kernel_rfl) (fun _ _ _ h => h) (Or.inl ⟨by rfl, ?_⟩) hHeld ?_
            · intro w hSw
              try dsimp only at hSw
              go_simp
            simp only [Act.put, List.getElem_toArray, List.getElem_cons_succ, List.getElem_cons_zero, List.setIfInBounds_toArray, List.set_cons_succ, List.set_cons_zero]
            refine wpAnyH_take (i := 7) (v := .bool false) rfl (by kernel_rfl) (by kernel_rfl) (by kernel_rfl) (fun _ _ _ h => h) (Or.inl ⟨by rfl, ?_⟩) hHeld ?_
            · intro w hSw
              try dsimp only at hSw
              go_simp
            simp only [Act.put, List.getElem_toArray, List.getElem_cons_succ, List.getElem_cons_zero, List.setIfInBounds_toArray, List.set_cons_succ, List.set_cons_zero]
            clear hHeld HSD
            refine wpAnyH_done (by kernel_rfl) ?_ _
            have BEL2 := Lib.hid (BEL3.out.trans ((Below.refl w3.heap.size w3).drew.mono BEL3.out.size))
            have OWN2 := Lib.hid (own6_kept OWN3.out (fun k _ hk => (Below.refl w3.heap.size w3).drew.block k hk))
            clear BEL3 OWN3
            generalize w3.drew = w2 at BEL2 OWN2 ⊢
            go_wp2_with fail
            go_roundw
            case rel => exact ⟨q + 1, true, xo3, rc3, es3, by have := HQ.out; omega, by go_num, rfl, rfl, ⟨OWN2.out, by have h := HT3.out; rw [if_pos he] at h; simpa using h, OK3.out, BEL2.out, by have := FEW3.out; omega, fun h => by cases h⟩⟩
            case measure => have := HQ.out; simp only [intOf]; omega
          · have hbe : (x.name.toList == a.name.toList) = false := ne_beq he
            have HSD : w3.drew.cell? ⟨bk, o + q * 6, none⟩ = some (.string x.name) ∧ w3.drew.cell? ⟨D, 0, none⟩ = some (.string a.name) ∧ Hid (Below w3.heap.size w3 w3.drew) := ⟨(E0.out.below BEL3.out).c0, (cells6 ((BEL3.out.block _ (lt_of_block T0.out)).trans T0.out)).1, (Below.refl w3.heap.size w3).drew⟩
            refine wp_region_held_drew (S := fun w' => w'.cell? ⟨bk, o + q * 6, none⟩ = some (.string x.name) ∧ w'.cell? ⟨D, 0, none⟩ = some (.string a.name) ∧ Hid (Below w3.heap.size w3 w')) (by kernel_rfl) HSD (fun hHeld => ?_)
            refine wpAnyH_take (i := 0) (v := .slice (some ⟨bk, o, none⟩) l.length c) rfl (by kernel_rfl) (by kernel_rfl) (by kernel_rfl) (fun _ _ _ h => h) (Or.inl ⟨by rfl, ?_⟩) hHeld ?_
            · intro w hSw
              try dsimp only at hSw
              go_simp
            simp only [Act.put, List.getElem_toArray, List.getElem_cons_zero, List.setIfInBounds_toArray, List.set_cons_succ, List.set_cons_zero]
            refine wpAnyH_take (i := 1) (v := .int .i64 (q : Int)) rfl (by kernel_rfl) (by kernel_rfl) (by kernel_rfl) (fun _ _ _ h => h) (Or.inl ⟨by rfl, ?_⟩) hHeld ?_
            · intro w hSw
              try dsimp only at hSw
              go_simp
            simp only [Act.put, List.getElem_toArray, List.getElem_cons_succ, List.getElem_cons_zero, List.setIfInBounds_toArray, List.set_cons_succ, List.set_cons_zero]
            refine wpAnyH_take (i := 2) (v := .pointer (some ⟨bk, o + q * 6, none⟩)) rfl (by kernel_rfl) (by kernel_rfl) (by kernel_rfl) (fun _ _ _ h => h) (Or.inl ⟨by rfl, ?_⟩) hHeld ?_
            · intro w hSw
              try dsimp only at hSw
              go_simp
            simp only [Act.put, List.getElem_toArray, List.getElem_cons_succ, List.getElem_cons_zero, List.setIfInBounds_toArray, List.set_cons_succ, List.set_cons_zero]
            refine wpAnyH_take (i := 3) (v := .pointer (some ⟨bk, o + q * 6, none⟩)) rfl (by kernel_rfl) (by kernel_rfl) (by kernel_rfl) (fun _ _ _ h => h) (Or.inl ⟨by rfl, ?_⟩) hHeld ?_
            · intro w hSw
              try dsimp only at hSw
              go_simp
            simp only [Act.put, List.getElem_toArray, List.getElem_cons_succ, List.getElem_cons_zero, List.setIfInBounds_toArray, List.set_cons_succ, List.set_cons_zero]
            refine wpAnyH_take (i := 4) (v := .string x.name) rfl (by kernel_rfl) (by kernel_rfl) (by kernel_rfl) (fun _ _ _ h => h) (Or.inl ⟨by rfl, ?_⟩) hHeld ?_
            · intro w hSw
              try dsimp only at hSw
              go_simp
            simp only [Act.put, List.getElem_toArray, List.getElem_cons_succ, List.getElem_cons_zero, List.setIfInBounds_toArray, List.set_cons_succ, List.set_cons_zero]
            refine wpAnyH_take (i := 5) (v := .pointer (some ⟨D, 0, none⟩)) rfl (by kernel_rfl) (by kernel_rfl) (by kernel_rfl) (fun _ _ _ h => h) (Or.inl ⟨by rfl, ?_⟩) hHeld ?_
            · intro w hSw
              try dsimp only at hSw
              go_simp
            simp only [Act.put, List.getElem_toArray, List.getElem_cons_succ, List.getElem_cons_zero, List.setIfInBounds_toArray, List.set_cons_succ, List.set_cons_zero]
            refine wpAnyH_take (i := 6) (v := .string a.name) rfl (by kernel_rfl) (by kernel_rfl) (by kernel_rfl) (fun _ _ _ h => h) (Or.inl ⟨by rfl, ?_⟩) hHeld ?_
            · intro w hSw
              try dsimp only at hSw
              go_simp
            simp only [Act.put, List.getElem_toArray, List.getElem_cons_succ, List.getElem_cons_zero, List.setIfInBounds_toArray, List.set_cons_succ, List.set_cons_zero]
            refine wpAnyH_take (i := 7) (v := .bool true) rfl (by kernel_rfl) (by kernel_rfl) (by kernel_rfl) (fun _ _ _ h => h) (Or.inl ⟨by rfl, ?_⟩) hHeld ?_
            · intro w hSw
              try dsimp only at hSw
              go_simp
            simp only [Act.put, List.getElem_toArray, List.getElem_cons_succ, List.getElem_cons_zero, List.setIfInBounds_toArray, List.set_cons_succ, List.set_cons_zero]
            clear hHeld HSD
            refine wpAnyH_done (by kernel_rfl) ?_ _
            have BEL2 := Lib.hid (BEL3.out.trans ((Below.refl w3.heap.size w3).drew.mono BEL3.out.size))
            have OWN2 := Lib.hid (own6_kept OWN3.out (fun k _ hk => (Below.refl w3.heap.size w3).drew.block k hk))
            clear BEL3 OWN3
            generalize w3.drew = w2 at BEL2 OWN2 ⊢
            have HB := Lib.hid (show w0.heap.size ≤ w2.heap.size from BEL2.out.size)
            have H3 := Lib.hid (show es3.length ≤ 2000 by have := FEW3.out; omega)
            obtain ⟨y0, y1, y2, y3, y4, y5⟩ := el_cells (E0.out.below BEL2.out)
            go_wp2_with (at_builtin; refine wp_append_one (e := ⟨x, bi, bci, bo, bct⟩) rfl _ _ rfl OWN2.out HB.out H3.out rfl rfl ?_; intro xo4 rc4 w4 hown hbel; have OWN4 := Lib.hid hown; have HBEL := Lib.hid hbel; clear hown hbel)
            go_roundw
            case rel => exact ⟨q + 1, true, xo4, rc4, es3 ++ [⟨x, bi, bci, bo, bct⟩], by have := HQ.out; omega, by go_num, rfl, by rw [List.length_append, List.length_singleton], ⟨OWN4.out, by have h := HT3.out; rw [if_neg he] at h; simpa using h, ok_snoc OK3.out OKX.out, BEL2.out.trans HBEL.out, by have := FEW3.out; rw [List.length_append, List.length_singleton]; omega, fun h => by cases h⟩⟩
            case measure => have := HQ.out; simp only [intOf]; omega
    · obtain rfl : q = l.length := by omega
      rw [List.drop_length, setR] at HT
      cases b with
      | true =>
        have HE := Lib.hid (show es.map (fun x : El => x.a) = setR a false l by simpa using HT.out)
        have HLI := Lib.hid (list_of_own OWN.out rfl (fun e he => (OK.out e he).below BEL.out))
        go_wp2_with fail
        go_ret
        exact ⟨xo, rc, by rw [← HE.out, List.length_map]; rfl, by rw [← HE.out, List.length_map]; exact HLI.out.2, by rw [← HE.out]; exact HLI.out.1, B0.out.trans (BEL.out.mono B0.out.size)⟩
      | false =>
        have HE := Lib.hid (show (es ++ [⟨a, ai, ci, ao, ct⟩] : List El).map (fun x : El => x.a) = setR a false l by have h := HT.out; simpa using h)
        have HB := Lib.hid (show w0.heap.size ≤ wr.heap.size from BEL.out.size)
        have H3 := Lib.hid (show es.length ≤ 2000 by have := FEW.out; omega)
        obtain ⟨y0, y1, y2, y3, y4, y5, yf⟩ := cells6 ((BEL.out.block _ (lt_of_block T0.out)).trans T0.out)
        go_wp2_with (at_builtin; refine wp_append_one (e := ⟨a, ai, ci, ao, ct⟩) rfl _ _ rfl OWN.out HB.out H3.out rfl rfl ?_; intro xo3 rc3 w3 hown hbel; have OWN3 := Lib.hid hown; have HBEL := Lib.hid hbel; clear hown hbel)
        have HBB := Lib.hid (BEL.out.trans HBEL.out)
        have HLI := Lib.hid (list_of_own OWN3.out rfl (fun e he => (ok_snoc OK.out OKA.out e he).below HBB.out))
        go_ret
        exact ⟨xo3, rc3, by rw [← HE.out, List.length_map, List.length_append, List.length_singleton]; rfl, by rw [← HE.out, List.length_map]; exact HLI.out.2, by rw [← HE.out]; exact HLI.out.1, B0.out.trans (HBB.out.mono B0.out.size)⟩
end Go.Proofs.YtiofnjnaleglgaaGreatDoor
