/-
  The reference's 'RightList' by its contract.
-/
import Derived.Test.YtiofnjnaleglgaaGreatDoorHAtRR
import Derived.Deep.RegionHeld3
import Derived.Deep.Cut
import Derived.Deep.DeepCutAuto
import Derived.BigRegion
namespace Go.Proofs.YtiofnjnaleglgaaGreatDoor
open Go.RowKit

set_option maxHeartbeats 4000000 in
set_option maxRecDepth 100000 in
theorem RRightList_any (so : Option Addr) (l : List At) (c : Nat) (hn : l.length ≤ 9223372036854775807) (hs : ∀ a ∈ l, Short a) (w : World) (hl : ListAt w so l) :
    Calls Tryz.prog 16 #[.slice so l.length c] w fun e w' => e = .returned (.bool (rightL l)) ∧ Below w.heap.size w w' := by
  have HL := Lib.hid hl
  have HSH := Lib.hid hs
  clear hl hs
  go_enter Tryz.func16, Tryz.ntmps16
  go_wp2_with fail
  go_loopw [3] (fun i wr => ∃ q : Nat, q ≤ l.length ∧ i = .int .i64 q ∧ Hid ((∀ j, j < q → goodAt l j = true) ∧ Below w.heap.size w wr)) (fun i _ => l.length - (intOf i).toNat)
  case atStart => exact ⟨0, Nat.zero_le _, rfl, fun j hj => absurd hj (Nat.not_lt_zero _), Below.refl _ _⟩
  case round =>
    obtain ⟨q, hq, rfl, hh⟩ := hrel
    by_cases hlt : q < l.length
    rotate_left
    · have hq' : q = l.length := by omega
      subst hq'
      by_cases h100 : l.length ≤ 100
      · have hx : (l.length : Int) ≤ 100 := by omega
        have hf := Lib.hid (show rightL l = true from (rightL_iff l).2 ⟨h100, hh.out.1⟩)
        go_wp2_with fail
        go_ret
        exact ⟨by rw [hf.out]; first | rfl | (show Ending.returned (.bool (decide ((l.length : Int) ≤ 100))) = _; rw [decide_eq_true (by omega)]), hh.out.2⟩
      · have hx : ¬ (l.length : Int) ≤ 100 := by omega
        have hf := Lib.hid (show rightL l = false by unfold rightL; rw [decide_eq_false h100]; rfl)
        go_wp2_with fail
        go_ret
        exact ⟨by rw [hf.out]; first | rfl | (show Ending.returned (.bool (decide ((l.length : Int) ≤ 100))) = _; rw [decide_eq_false (by omega)]), hh.out.2⟩
    rcases HL.out.below hh.out.2 with h0 | ⟨bk, o, rfl, hc⟩
    · rw [h0] at hlt; exact absurd hlt (Nat.not_lt_zero _)
    have hqi : (q : Int) < (l.length : Int) := by omega
    obtain ⟨ai, ci, ao, ct, hel⟩ := hc q hlt
    have HPR := Lib.hid (hc (q - 1))
    have HEL := Lib.hid hel
    have HG := Lib.hid (show goodAt l q = (rightB (nth l q) && (decide (q = 0) || lessB (nth l (q - 1)).name (nth l q).name)) from rfl)
    have HSA := Lib.hid (HSH.out (nth l q) (by rw [nth_get hlt]; exact List.getElem_mem hlt))
    clear hc hel
    generalize nth l q = a at HEL HG HSA
    have c0 := HEL.out.c0
    have c1 := HEL.out.c1
    have c2 := HEL.out.c2
    have c3 := HEL.out.c3
    have c4 := HEL.out.c4
    have c5 := HEL.out.c5
    have hat := HEL.out.att
    by_cases hq0 : q = 0
    · subst hq0
      simp only [Nat.zero_mul, Nat.add_zero] at c0 c1 c2 c3 c4 c5
      cases hr : rightB a with
      | false =>
        have hf := Lib.hid (show rightL l = false from rightL_bad hlt (by rw [HG.out, hr]; rfl))
        have HRR := Lib.hid (show ∀ X, (X.cell? ⟨bk, o, none⟩ = some (.string a.name) ∧ X.cell? ⟨bk, o + 1, none⟩ = some (.int .i64 a.kind) ∧ X.cell? ⟨bk, o + 2, none⟩ = some (.int .i64 a.num) ∧ X.cell? ⟨bk, o + 3, none⟩ = some (.string a.text) ∧ X.cell? ⟨bk, o + 4, none⟩ = some (.slice ai a.ints.length ci) ∧ X.cell? ⟨bk, o + 5, none⟩ = some (.slice ao a.texts.length ct) ∧ Hid (Below wr.heap.size wr X)) → Calls Tryz.prog 22 #[.agg #[.string a.name, .int .i64 a.kind, .int .i64 a.num, .string a.text, .slice ai a.ints.length ci, .slice ao a.texts.length ct]] X (fun e w' => e = .returned (.bool false) ∧ Below X.heap.size X w') from fun X h => by
          have hb := h.2.2.2.2.2.2.out
          have := RRight_any a _ ai ci ao ct HSA.out X (hat.below hb)
          rw [hr] at this
          exact this)
        have HST := Lib.hid (show ∀ X Y, (X.cell? ⟨bk, o, none⟩ = some (.string a.name) ∧ X.cell? ⟨bk, o + 1, none⟩ = some (.int .i64 a.kind) ∧ X.cell? ⟨bk, o + 2, none⟩ = some (.int .i64 a.num) ∧ X.cell? ⟨bk, o + 3, none⟩ = some (.string a.text) ∧ X.cell? ⟨bk, o + 4, none⟩ = some (.slice ai a.ints.length ci) ∧ X.cell? ⟨bk, o + 5, none⟩ = some (.slice ao a.texts.length ct) ∧ Hid (Below wr.heap.size wr X)) → Below X.heap.size X Y → (Y.cell? ⟨bk, o, none⟩ = some (.string a.name) ∧ Y.cell? ⟨bk, o + 1, none⟩ = some (.int .i64 a.kind) ∧ Y.cell? ⟨bk, o + 2, none⟩ = some (.int .i64 a.num) ∧ Y.cell? ⟨bk, o + 3, none⟩ = some (.string a.text) ∧ Y.cell? ⟨bk, o + 4, none⟩ = some (.slice ai a.ints.length ci) ∧ Y.cell? ⟨bk, o + 5, none⟩ = some (.slice ao a.texts.length ct) ∧ Hid (Below wr.heap.size wr Y)) from fun X Y h hb => by
          obtain ⟨h0, h1, h2, h3, h4, h5, hB⟩ := h
          have hc : ∀ {x : Addr} {v : Value}, X.cell? x = some v → Y.cell? x = some v := fun hx => (hb.cell (block_lt_of_cell hx)).trans hx
          exact ⟨hc h0, hc h1, hc h2, hc h3, hc h4, hc h5, hB.out.trans (hb.mono hB.out.size)⟩)
        have HSD : wr.drew.cell? ⟨bk, o, none⟩ = some (.string a.name) ∧ wr.drew.cell? ⟨bk, o + 1, none⟩ = some (.int .i64 a.kind) ∧ wr.drew.cell? ⟨bk, o + 2, none⟩ = some (.int .i64 a.num) ∧ wr.drew.cell? ⟨bk, o + 3, none⟩ = some (.string a.text) ∧ wr.drew.cell? ⟨bk, o + 4, none⟩ = some (.slice ai a.ints.length ci) ∧ wr.drew.cell? ⟨bk, o + 5, none⟩ = some (.slice ao a.texts.length ct) ∧ Hid (Below wr.heap.size wr wr.drew) := ⟨c0, c1, c2, c3, c4, c5, (Below.refl wr.heap.size wr).drew⟩
        clear c0 c1 c2 c3 c4 c5 hat HEL HPR HSA
        go_upto_region 4 with fail
        refine wp_region_held_drew (S := fun w' => w'.cell? ⟨bk, o, none⟩ = some (.string a.name) ∧ w'.cell? ⟨bk, o + 1, none⟩ = some (.int .i64 a.kind) ∧ w'.cell? ⟨bk, o + 2, none⟩ = some (.int .i64 a.num) ∧ w'.cell? ⟨bk, o + 3, none⟩ = some (.string a.text) ∧ w'.cell? ⟨bk, o + 4, none⟩ = some (.slice ai a.ints.length ci) ∧ w'.cell? ⟨bk, o + 5, none⟩ = some (.slice ao a.texts.length ct) ∧ Hid (Below wr.heap.size wr w')) (by kernel_rfl) HSD (fun hHeld => ?_)
        refine wpAnyH_take (i := 0) (v := .slice (some ⟨bk, o, none⟩) l.length c) rfl (by kernel_rfl) (by kernel_rfl) (by kernel_rfl) (fun _ _ _ h => h) (Or.inl ⟨by rfl, ?_⟩) hHeld ?_
        · intro w hSw
          try dsimp only at hSw
          go_simp
        simp only [Act.put, List.getElem_toArray, List.getElem_cons_zero, List.setIfInBounds_toArray, List.set_cons_succ, List.set_cons_zero]
        refine wpAnyH_take (i := 1) (v := .int .i64 ((0 : Nat) : Int)) rfl (by kernel_rfl) (by kernel_rfl) (by kernel_rfl) (fun _ _ _ h => h) (Or.inl ⟨by rfl, ?_⟩) hHeld ?_
        · intro w hSw
          try dsimp only at hSw
          go_simp
        simp only [Act.put, List.getElem_toArray, List.getElem_cons_succ, List.getElem_cons_zero, List.setIfInBounds_toArray, List.set_cons_succ, List.set_cons_zero]
        refine wpAnyH_take (i := 2) (v := .pointer (some ⟨bk, o, none⟩)) rfl (by kernel_rfl) (by kernel_rfl) (by kernel_rfl) (fun _ _ _ h => h) (Or.inl ⟨by rfl, ?_⟩) hHeld ?_
        · intro w hSw
          try dsimp only at hSw
          go_simp
        simp only [Act.put, List.getElem_toArray, List.getElem_cons_succ, List.getElem_cons_zero, List.setIfInBounds_toArray, List.set_cons_succ, List.set_cons_zero]
        refine wpAnyH_take (i := 3) (v := .agg #[.string a.name, .int .i64 a.kind, .int .i64 a.num, .string a.text, .slice ai a.ints.length ci, .slice ao a.texts.length ct]) rfl (by kernel_rfl) (by kernel_rfl) (by kernel_rfl) (fun _ _ _ h => h) (Or.inl ⟨by rfl, ?_⟩) hHeld ?_
        · intro w hSw
          try dsimp only at hSw
          go_simp
        simp only [Act.put, List.getElem_toArray, List.getElem_cons_succ, List.getElem_cons_zero, List.setIfInBounds_toArray, List.set_cons_succ, List.set_cons_zero]
        refine wpAnyH_ready (rs := [4]) (by kernel_rfl) (by simp) ?_
        refine AllReadyH.cons rfl (fun K hK => ?_) AllReadyH.nil
        go_simp
        go_at_call 22
        with_reducible refine (HRR.out _ hHeld).mono ?_
        rintro e w' ⟨rfl, hb⟩
        try dsimp only
        refine hK.out _ _ (HST.out _ _ hHeld hb) (fun hHeld2 => ?_)
        clear hK K hb hHeld HRR
        try simp only [Act.put, List.getElem_toArray, List.getElem_cons_succ, List.getElem_cons_zero, List.setIfInBounds_toArray, List.set_cons_succ, List.set_cons_zero]
        refine wpAnyH_take (i := 5) (v := .bool true) rfl (by kernel_rfl) (by kernel_rfl) (by kernel_rfl) (fun _ _ _ h => h) (Or.inl ⟨by rfl, ?_⟩) hHeld2 ?_
        · intro w hSw
          try dsimp only at hSw
          go_simp
        simp only [Act.put, List.getElem_toArray, List.getElem_cons_succ, List.getElem_cons_zero, List.setIfInBounds_toArray, List.set_cons_succ, List.set_cons_zero]
        refine wpAnyH_take (i := 6) (v := .bool true) rfl (by kernel_rfl) (by kernel_rfl) (by kernel_rfl) (fun _ _ _ h => h) (Or.inl ⟨by rfl, ?_⟩) hHeld2 ?_
        · intro w hSw
          try dsimp only at hSw
          go_simp
        simp only [Act.put, List.getElem_toArray, List.getElem_cons_succ, List.getElem_cons_zero, List.setIfInBounds_toArray, List.set_cons_succ, List.set_cons_zero]
        refine wpAnyH_take (i := 7) (v := undef) rfl (by kernel_rfl) (by kernel_rfl) (by kernel_rfl) (fun _ _ _ h => h) (Or.inr ⟨by rfl, rfl⟩) hHeld2 ?_
        simp only [Act.put, List.getElem_toArray, List.getElem_cons_succ, List.getElem_cons_zero, List.setIfInBounds_toArray, List.set_cons_succ, List.set_cons_zero]
        refine wpAnyH_take (i := 8) (v := undef) rfl (by kernel_rfl) (by kernel_rfl) (by kernel_rfl) (fun _ _ _ h => h) (Or.inr ⟨by rfl, rfl⟩) hHeld2 ?_
        simp only [Act.put, List.getElem_toArray, List.getElem_cons_succ, List.getElem_cons_zero, List.setIfInBounds_toArray, List.set_cons_succ, List.set_cons_zero]
        refine wpAnyH_take (i := 9) (v := undef) rfl (by kernel_rfl) (by kernel_rfl) (by kernel_rfl) (fun _ _ _ h => h) (Or.inr ⟨by rfl, rfl⟩) hHeld2 ?_
        simp only [Act.put, List.getElem_toArray, List.getElem_cons_succ, List.getElem_cons_zero, List.setIfInBounds_toArray, List.set_cons_succ, List.set_cons_zero]
        refine wpAnyH_take (i := 10) (v := undef) rfl (by kernel_rfl) (by kernel_rfl) (by kernel_rfl) (fun _ _ _ h => h) (Or.inr ⟨by rfl, rfl⟩) hHeld2 ?_
        simp only [Act.put, List.getElem_toArray, List.getElem_cons_succ, List.getElem_cons_zero, List.setIfInBounds_toArray, List.set_cons_succ, List.set_cons_zero]
        refine wpAnyH_take (i := 11) (v := undef) rfl (by kernel_rfl) (by kernel_rfl) (by kernel_rfl) (fun _ _ _ h => h) (Or.inr ⟨by rfl, rfl⟩) hHeld2 ?_
        simp only [Act.put, List.getElem_toArray, List.getElem_cons_succ, List.getElem_cons_zero, List.setIfInBounds_toArray, List.set_cons_succ, List.set_cons_zero]
        refine wpAnyH_take (i := 12) (v := undef) rfl (by kernel_rfl) (by kernel_rfl) (by kernel_rfl) (fun _ _ _ h => h) (Or.inr ⟨by rfl, rfl⟩) hHeld2 ?_
        simp only [Act.put, List.getElem_toArray, List.getElem_cons_succ, List.getElem_cons_zero, List.setIfInBounds_toArray, List.set_cons_succ, List.set_cons_zero]
        refine wpAnyH_take (i := 13) (v := undef) rfl (by kernel_rfl) (by kernel_rfl) (by kernel_rfl) (fun _ _ _ h => h) (Or.inr ⟨by rfl, rfl⟩) hHeld2 ?_
        simp only [Act.put, List.getElem_toArray, List.getElem_cons_succ, List.getElem_cons_zero, List.setIfInBounds_toArray, List.set_cons_succ, List.set_cons_zero]
        refine wpAnyH_take (i := 14) (v := undef) rfl (by kernel_rfl) (by kernel_rfl) (by kernel_rfl) (fun _ _ _ h => h) (Or.inr ⟨by rfl, rfl⟩) hHeld2 ?_
        simp only [Act.put, List.getElem_toArray, List.getElem_cons_succ, List.getElem_cons_zero, List.setIfInBounds_toArray, List.set_cons_succ, List.set_cons_zero]
        refine wpAnyH_take (i := 15) (v := undef) rfl (by kernel_rfl) (by kernel_rfl) (by kernel_rfl) (fun _ _ _ h => h) (Or.inr ⟨by rfl, rfl⟩) hHeld2 ?_
        simp only [Act.put, List.getElem_toArray, List.getElem_cons_succ, List.getElem_cons_zero, List.setIfInBounds_toArray, List.set_cons_succ, List.set_cons_zero]
        refine wpAnyH_take (i := 16) (v := undef) rfl (by kernel_rfl) (by kernel_rfl) (by kernel_rfl) (fun _ _ _ h => h) (Or.inr ⟨by rfl, rfl⟩) hHeld2 ?_
        simp only [Act.put, List.getElem_toArray, List.getElem_cons_succ, List.getElem_cons_zero, List.setIfInBounds_toArray, List.set_cons_succ, List.set_cons_zero]
        refine wpAnyH_take (i := 17) (v := undef) rfl (by kernel_rfl) (by kernel_rfl) (by kernel_rfl) (fun _ _ _ h => h) (Or.inr ⟨by rfl, rfl⟩) hHeld2 ?_
        simp only [Act.put, List.getElem_toArray, List.getElem_cons_succ, List.getElem_cons_zero, List.setIfInBounds_toArray, List.set_cons_succ, List.set_cons_zero]
        refine wpAnyH_take (i := 18) (v := undef) rfl (by kernel_rfl) (by kernel_rfl) (by kernel_rfl) (fun _ _ _ h => h) (Or.inr ⟨by rfl, rfl⟩) hHeld2 ?_
        simp only [Act.put, List.getElem_toArray, List.getElem_cons_succ, List.getElem_cons_zero, List.setIfInBounds_toArray, List.set_cons_succ, List.set_cons_zero]
        refine wpAnyH_take (i := 19) (v := undef) rfl (by kernel_rfl) (by kernel_rfl) (by kernel_rfl) (fun _ _ _ h => h) (Or.inr ⟨by rfl, rfl⟩) hHeld2 ?_
        simp only [Act.put, List.getElem_toArray, List.getElem_cons_succ, List.getElem_cons_zero, List.setIfInBounds_toArray, List.set_cons_succ, List.set_cons_zero]
        refine wpAnyH_take (i := 20) (v := undef) rfl (by kernel_rfl) (by kernel_rfl) (by kernel_rfl) (fun _ _ _ h => h) (Or.inr ⟨by rfl, rfl⟩) hHeld2 ?_
        simp only [Act.put, List.getElem_toArray, List.getElem_cons_succ, List.getElem_cons_zero, List.setIfInBounds_toArray, List.set_cons_succ, List.set_cons_zero]
        refine wpAnyH_take (i := 21) (v := undef) rfl (by kernel_rfl) (by kernel_rfl) (by kernel_rfl) (fun _ _ _ h => h) (Or.inr ⟨by rfl, rfl⟩) hHeld2 ?_
        simp only [Act.put, List.getElem_toArray, List.getElem_cons_succ, List.getElem_cons_zero, List.setIfInBounds_toArray, List.set_cons_succ, List.set_cons_zero]
        refine wpAnyH_take (i := 22) (v := undef) rfl (by kernel_rfl) (by kernel_rfl) (by kernel_rfl) (fun _ _ _ h => h) (Or.inr ⟨by rfl, rfl⟩) hHeld2 ?_
        simp only [Act.put, List.getElem_toArray, List.getElem_cons_succ, List.getElem_cons_zero, List.setIfInBounds_toArray, List.set_cons_succ, List.set_cons_zero]
        refine wpAnyH_take (i := 23) (v := .bool true) rfl (by kernel_rfl) (by kernel_rfl) (by kernel_rfl) (fun _ _ _ h => h) (Or.inl ⟨by rfl, ?_⟩) hHeld2 ?_
        · intro w hSw
          try dsimp only at hSw
          go_simp
        simp only [Act.put, List.getElem_toArray, List.getElem_cons_succ, List.getElem_cons_zero, List.setIfInBounds_toArray, List.set_cons_succ, List.set_cons_zero]
        refine wpAnyH_done (by kernel_rfl) ?_ _
        have BX := Lib.hid (hh.out.2.trans ((hHeld2.2.2.2.2.2.2.out).mono hh.out.2.size))
        clear hHeld2 HST HSD
        go_wp2_with fail
        go_ret
        exact ⟨by rw [hf.out]; rfl, BX.out⟩
      | true =>
        have HGO := Lib.hid (show ∀ j, j < 0 + 1 → goodAt l j = true from fun j hj => by
          obtain rfl : j = 0 := by omega
          rw [HG.out, hr]; rfl)
        have HRR := Lib.hid (show ∀ X, (X.cell? ⟨bk, o, none⟩ = some (.string a.name) ∧ X.cell? ⟨bk, o + 1, none⟩ = some (.int .i64 a.kind) ∧ X.cell? ⟨bk, o + 2, none⟩ = some (.int .i64 a.num) ∧ X.cell? ⟨bk, o + 3, none⟩ = some (.string a.text) ∧ X.cell? ⟨bk, o + 4, none⟩ = some (.slice ai a.ints.length ci) ∧ X.cell? ⟨bk, o + 5, none⟩ = some (.slice ao a.texts.length ct) ∧ Hid (Below wr.heap.size wr X)) → Calls Tryz.prog 22 #[.agg #[.string a.name, .int .i64 a.kind, .int .i64 a.num, .string a.text, .slice ai a.ints.length ci, .slice ao a.texts.length ct]] X (fun e w' => e = .returned (.bool true) ∧ Below X.heap.size X w') from fun X h => by
          have hb := h.2.2.2.2.2.2.out
          have := RRight_any a _ ai ci ao ct HSA.out X (hat.below hb)
          rw [hr] at this
          exact this)
        have HST := Lib.hid (show ∀ X Y, (X.cell? ⟨bk, o, none⟩ = some (.string a.name) ∧ X.cell? ⟨bk, o + 1, none⟩ = some (.int .i64 a.kind) ∧ X.cell? ⟨bk, o + 2, none⟩ = some (.int .i64 a.num) ∧ X.cell? ⟨bk, o + 3, none⟩ = some (.string a.text) ∧ X.cell? ⟨bk, o + 4, none⟩ = some (.slice ai a.ints.length ci) ∧ X.cell? ⟨bk, o + 5, none⟩ = some (.slice ao a.texts.length ct) ∧ Hid (Below wr.heap.size wr X)) → Below X.heap.size X Y → (Y.cell? ⟨bk, o, none⟩ = some (.string a.name) ∧ Y.cell? ⟨bk, o + 1, none⟩ = some (.int .i64 a.kind) ∧ Y.cell? ⟨bk, o + 2, none⟩ = some (.int .i64 a.num) ∧ Y.cell? ⟨bk, o + 3, none⟩ = some (.string a.text) ∧ Y.cell? ⟨bk, o + 4, none⟩ = some (.slice ai a.ints.length ci) ∧ Y.cell? ⟨bk, o + 5, none⟩ = some (.slice ao a.texts.length ct) ∧ Hid (Below wr.heap.size wr Y)) from fun X Y h hb => by
          obtain ⟨h0, h1, h2, h3, h4, h5, hB⟩ := h
          have hc : ∀ {x : Addr} {v : Value}, X.cell? x = some v → Y.cell? x = some v := fun hx => (hb.cell (block_lt_of_cell hx)).trans hx
          exact ⟨hc h0, hc h1, hc h2, hc h3, hc h4, hc h5, hB.out.trans (hb.mono hB.out.size)⟩)
        have HSD : wr.drew.cell? ⟨bk, o, none⟩ = some (.string a.name) ∧ wr.drew.cell? ⟨bk, o + 1, none⟩ = some (.int .i64 a.kind) ∧ wr.drew.cell? ⟨bk, o + 2, none⟩ = some (.int .i64 a.num) ∧ wr.drew.cell? ⟨bk, o + 3, none⟩ = some (.string a.text) ∧ wr.drew.cell? ⟨bk, o + 4, none⟩ = some (.slice ai a.ints.length ci) ∧ wr.drew.cell? ⟨bk, o + 5, none⟩ = some (.slice ao a.texts.length ct) ∧ Hid (Below wr.heap.size wr wr.drew) := ⟨c0, c1, c2, c3, c4, c5, (Below.refl wr.heap.size wr).drew⟩
        clear c0 c1 c2 c3 c4 c5 hat HEL HPR HSA
        go_upto_region 4 with fail
        refine wp_region_held_drew (S := fun w' => w'.cell? ⟨bk, o, none⟩ = some (.string a.name) ∧ w'.cell? ⟨bk, o + 1, none⟩ = some (.int .i64 a.kind) ∧ w'.cell? ⟨bk, o + 2, none⟩ = some (.int .i64 a.num) ∧ w'.cell? ⟨bk, o + 3, none⟩ = some (.string a.text) ∧ w'.cell? ⟨bk, o + 4, none⟩ = some (.slice ai a.ints.length ci) ∧ w'.cell? ⟨bk, o + 5, none⟩ = some (.slice ao a.texts.length ct) ∧ Hid (Below wr.heap.size wr w')) (by kernel_rfl) HSD (fun hHeld => ?_)
        refine wpAnyH_take (i := 0) (v := .slice (some ⟨bk, o, none⟩) l.length c) rfl (by kernel_rfl) (by kernel_rfl) (by kernel_rfl) (fun _ _ _ h => h) (Or.inl ⟨by rfl, ?_⟩) hHeld ?_
        · intro w hSw
          try dsimp only at hSw
          go_simp
        simp only [Act.put, List.getElem_toArray, List.getElem_cons_zero, List.setIfInBounds_toArray, List.set_cons_succ, List.set_cons_zero]
        refine wpAnyH_take (i := 1) (v := .int .i64 ((0 : Nat) : Int)) rfl (by kernel_rfl) (by kernel_rfl) (by kernel_rfl) (fun _ _ _ h => h) (Or.inl ⟨by rfl, ?_⟩) hHeld ?_
        · intro w hSw
          try dsimp only at hSw
          go_simp
        simp only [Act.put, List.getElem_toArray, List.getElem_cons_succ, List.getElem_cons_zero, List.setIfInBounds_toArray, List.set_cons_succ, List.set_cons_zero]
        refine wpAnyH_take (i := 2) (v := .pointer (some ⟨bk, o, none⟩)) rfl (by kernel_rfl) (by kernel_rfl) (by kernel_rfl) (fun _ _ _ h => h) (Or.inl ⟨by rfl, ?_⟩) hHeld ?_
        · intro w hSw
          try dsimp only at hSw
          go_simp
        simp only [Act.put, List.getElem_toArray, List.getElem_cons_succ, List.getElem_cons_zero, List.setIfInBounds_toArray, List.set_cons_succ, List.set_cons_zero]
        refine wpAnyH_take (i := 3) (v := .agg #[.string a.name, .int .i64 a.kind, .int .i64 a.num, .string a.text, .slice ai a.ints.length ci, .slice ao a.texts.length ct]) rfl (by kernel_rfl) (by kernel_rfl) (by kernel_rfl) (fun _ _ _ h => h) (Or.inl ⟨by rfl, ?_⟩) hHeld ?_
        · intro w hSw
          try dsimp only at hSw
          go_simp
        simp only [Act.put, List.getElem_toArray, List.getElem_cons_succ, List.getElem_cons_zero, List.setIfInBounds_toArray, List.set_cons_succ, List.set_cons_zero]
        refine wpAnyH_ready (rs := [4]) (by kernel_rfl) (by simp) ?_
        refine AllReadyH.cons rfl (fun K hK => ?_) AllReadyH.nil
        go_simp
        go_at_call 22
        with_reducible refine (HRR.out _ hHeld).mono ?_
        rintro e w' ⟨rfl, hb⟩
        try dsimp only
        refine hK.out _ _ (HST.out _ _ hHeld hb) (fun hHeld2 => ?_)
        clear hK K hb hHeld HRR
        try simp only [Act.put, List.getElem_toArray, List.getElem_cons_succ, List.getElem_cons_zero, List.setIfInBounds_toArray, List.set_cons_succ, List.set_cons_zero]
        refine wpAnyH_take (i := 5) (v := .bool false) rfl (by kernel_rfl) (by kernel_rfl) (by kernel_rfl) (fun _ _ _ h => h) (Or.inl ⟨by rfl, ?_⟩) hHeld2 ?_
        · intro w hSw
          try dsimp only at hSw
          go_simp
        simp only [Act.put, List.getElem_toArray, List.getElem_cons_succ, List.getElem_cons_zero, List.setIfInBounds_toArray, List.set_cons_succ, List.set_cons_zero]
        refine wpAnyH_take (i := 6) (v := .bool false) rfl (by kernel_rfl) (by kernel_rfl) (by kernel_rfl) (fun _ _ _ h => h) (Or.inl ⟨by rfl, ?_⟩) hHeld2 ?_
        · intro w hSw
          try dsimp only at hSw
          go_simp
        simp only [Act.put, List.getElem_toArray, List.getElem_cons_succ, List.getElem_cons_zero, List.setIfInBounds_toArray, List.set_cons_succ, List.set_cons_zero]
        refine wpAnyH_take (i := 7) (v := .int .i64 ((0 : Nat) : Int)) rfl (by kernel_rfl) (by kernel_rfl) (by kernel_rfl) (fun _ _ _ h => h) (Or.inl ⟨by rfl, ?_⟩) hHeld2 ?_
        · intro w hSw
          try dsimp only at hSw
          go_simp
        simp only [Act.put, List.getElem_toArray, List.getElem_cons_succ, List.getElem_cons_zero, List.setIfInBounds_toArray, List.set_cons_succ, List.set_cons_zero]
        refine wpAnyH_take (i := 8) (v := .bool false) rfl (by kernel_rfl) (by kernel_rfl) (by kernel_rfl) (fun _ _ _ h => h) (Or.inl ⟨by rfl, ?_⟩) hHeld2 ?_
        · intro w hSw
          try dsimp only at hSw
          go_simp
        simp only [Act.put, List.getElem_toArray, List.getElem_cons_succ, List.getElem_cons_zero, List.setIfInBounds_toArray, List.set_cons_succ, List.set_cons_zero]
        refine wpAnyH_take (i := 9) (v := .bool false) rfl (by kernel_rfl) (by kernel_rfl) (by kernel_rfl) (fun _ _ _ h => h) (Or.inl ⟨by rfl, ?_⟩) hHeld2 ?_
        · intro w hSw
          try dsimp only at hSw
          go_simp
        simp only [Act.put, List.getElem_toArray, List.getElem_cons_succ, List.getElem_cons_zero, List.setIfInBounds_toArray, List.set_cons_succ, List.set_cons_zero]
        refine wpAnyH_take (i := 10) (v := undef) rfl (by kernel_rfl) (by kernel_rfl) (by kernel_rfl) (fun _ _ _ h => h) (Or.inr ⟨by rfl, rfl⟩) hHeld2 ?_
        simp only [Act.put, List.getElem_toArray, List.getElem_cons_succ, List.getElem_cons_zero, List.setIfInBounds_toArray, List.set_cons_succ, List.set_cons_zero]
        refine wpAnyH_take (i := 11) (v := undef) rfl (by kernel_rfl) (by kernel_rfl) (by kernel_rfl) (fun _ _ _ h => h) (Or.inr ⟨by rfl, rfl⟩) hHeld2 ?_
        simp only [Act.put, List.getElem_toArray, List.getElem_cons_succ, List.getElem_cons_zero, List.setIfInBounds_toArray, List.set_cons_succ, List.set_cons_zero]
        refine wpAnyH_take (i := 12) (v := undef) rfl (by kernel_rfl) (by kernel_rfl) (by kernel_rfl) (fun _ _ _ h => h) (Or.inr ⟨by rfl, rfl⟩) hHeld2 ?_
        simp only [Act.put, List.getElem_toArray, List.getElem_cons_succ, List.getElem_cons_zero, List.setIfInBounds_toArray, List.set_cons_succ, List.set_cons_zero]
        refine wpAnyH_take (i := 13) (v := undef) rfl (by kernel_rfl) (by kernel_rfl) (by kernel_rfl) (fun _ _ _ h => h) (Or.inr ⟨by rfl, rfl⟩) hHeld2 ?_
        simp only [Act.put, List.getElem_toArray, List.getElem_cons_succ, List.getElem_cons_zero, List.setIfInBounds_toArray, List.set_cons_succ, List.set_cons_zero]
        refine wpAnyH_take (i := 14) (v := undef) rfl (by kernel_rfl) (by kernel_rfl) (by kernel_rfl) (fun _ _ _ h => h) (Or.inr ⟨by rfl, rfl⟩) hHeld2 ?_
        simp only [Act.put, List.getElem_toArray, List.getElem_cons_succ, List.getElem_cons_zero, List.setIfInBounds_toArray, List.set_cons_succ, List.set_cons_zero]
        refine wpAnyH_take (i := 15) (v := undef) rfl (by kernel_rfl) (by kernel_rfl) (by kernel_rfl) (fun _ _ _ h => h) (Or.inr ⟨by rfl, rfl⟩) hHeld2 ?_
        simp only [Act.put, List.getElem_toArray, List.getElem_cons_succ, List.getElem_cons_zero, List.setIfInBounds_toArray, List.set_cons_succ, List.set_cons_zero]
        refine wpAnyH_take (i := 16) (v := undef) rfl (by kernel_rfl) (by kernel_rfl) (by kernel_rfl) (fun _ _ _ h => h) (Or.inr ⟨by rfl, rfl⟩) hHeld2 ?_
        simp only [Act.put, List.getElem_toArray, List.getElem_cons_succ, List.getElem_cons_zero, List.setIfInBounds_toArray, List.set_cons_succ, List.set_cons_zero]
        refine wpAnyH_take (i := 17) (v := undef) rfl (by kernel_rfl) (by kernel_rfl) (by kernel_rfl) (fun _ _ _ h => h) (Or.inr ⟨by rfl, rfl⟩) hHeld2 ?_
        simp only [Act.put, List.getElem_toArray, List.getElem_cons_succ, List.getElem_cons_zero, List.setIfInBounds_toArray, List.set_cons_succ, List.set_cons_zero]
        refine wpAnyH_take (i := 18) (v := undef) rfl (by kernel_rfl) (by kernel_rfl) (by kernel_rfl) (fun _ _ _ h => h) (Or.inr ⟨by rfl, rfl⟩) hHeld2 ?_
        simp only [Act.put, List.getElem_toArray, List.getElem_cons_succ, List.getElem_cons_zero, List.setIfInBounds_toArray, List.set_cons_succ, List.set_cons_zero]
        refine wpAnyH_take (i := 19) (v := undef) rfl (by kernel_rfl) (by kernel_rfl) (by kernel_rfl) (fun _ _ _ h => h) (Or.inr ⟨by rfl, rfl⟩) hHeld2 ?_
        simp only [Act.put, List.getElem_toArray, List.getElem_cons_succ, List.getElem_cons_zero, List.setIfInBounds_toArray, List.set_cons_succ, List.set_cons_zero]
        refine wpAnyH_take (i := 20) (v := undef) rfl (by kernel_rfl) (by kernel_rfl) (by kernel_rfl) (fun _ _ _ h => h) (Or.inr ⟨by rfl, rfl⟩) hHeld2 ?_
        simp only [Act.put, List.getElem_toArray, List.getElem_cons_succ, List.getElem_cons_zero, List.setIfInBounds_toArray, List.set_cons_succ, List.set_cons_zero]
        refine wpAnyH_take (i := 21) (v := undef) rfl (by kernel_rfl) (by kernel_rfl) (by kernel_rfl) (fun _ _ _ h => h) (Or.inr ⟨by rfl, rfl⟩) hHeld2 ?_
        simp only [Act.put, List.getElem_toArray, List.getElem_cons_succ, List.getElem_cons_zero, List.setIfInBounds_toArray, List.set_cons_succ, List.set_cons_zero]
        refine wpAnyH_take (i := 22) (v := .bool false) rfl (by kernel_rfl) (by kernel_rfl) (by kernel_rfl) (fun _ _ _ h => h) (Or.inl ⟨by rfl, ?_⟩) hHeld2 ?_
        · intro w hSw
          try dsimp only at hSw
          go_simp
        simp only [Act.put, List.getElem_toArray, List.getElem_cons_succ, List.getElem_cons_zero, List.setIfInBounds_toArray, List.set_cons_succ, List.set_cons_zero]
        refine wpAnyH_take (i := 23) (v := .bool false) rfl (by kernel_rfl) (by kernel_rfl) (by kernel_rfl) (fun _ _ _ h => h) (Or.inl ⟨by rfl, ?_⟩) hHeld2 ?_
        · intro w hSw
          try dsimp only at hSw
          go_simp
        simp only [Act.put, List.getElem_toArray, List.getElem_cons_succ, List.getElem_cons_zero, List.setIfInBounds_toArray, List.set_cons_succ, List.set_cons_zero]
        refine wpAnyH_done (by kernel_rfl) ?_ _
        have BX := Lib.hid (hh.out.2.trans ((hHeld2.2.2.2.2.2.2.out).mono hh.out.2.size))
        clear hHeld2 HST HSD
        go_wp2_with fail
        go_roundw
        case rel => exact ⟨0 + 1, by omega, rfl, HGO.out, BX.out⟩
        case measure => simp only [intOf]; omega
    · obtain ⟨p, rfl⟩ : ∃ p, q = p + 1 := ⟨q - 1, by omega⟩
      obtain ⟨bi, bci, bo, bct, hpe⟩ := HPR.out (by omega)
      rw [show p + 1 - 1 = p from rfl] at hpe HG
      have p0 := hpe.c0
      generalize (nth l p).name = pn at p0 HG
      clear hpe
      have hp0 : (0 : Int) < ((p + 1 : Nat) : Int) := by omega
      have hpl : (p : Int) < (l.length : Int) := by omega
      have hpw : wrap64 (((p + 1 : Nat) : Int) - 1) = (p : Int) := by rw [show ((p + 1 : Nat) : Int) - 1 = (p : Int) by omega]; unfold wrap64; omega
      cases hr : rightB a with
      | false =>
        have hf := Lib.hid (show rightL l = false from rightL_bad hlt (by rw [HG.out, hr]; rfl))
        have HRR := Lib.hid (show ∀ X, (X.cell? ⟨bk, o + (p + 1) * 6, none⟩ = some (.string a.name) ∧ X.cell? ⟨bk, o + (p + 1) * 6 + 1, none⟩ = some (.int .i64 a.kind) ∧ X.cell? ⟨bk, o + (p + 1) * 6 + 2, none⟩ = some (.int .i64 a.num) ∧ X.cell? ⟨bk, o + (p + 1) * 6 + 3, none⟩ = some (.string a.text) ∧ X.cell? ⟨bk, o + (p + 1) * 6 + 4, none⟩ = some (.slice ai a.ints.length ci) ∧ X.cell? ⟨bk, o + (p + 1) * 6 + 5, none⟩ = some (.slice ao a.texts.length ct) ∧ X.cell? ⟨bk, o + p * 6, none⟩ = some (.string pn) ∧ Hid (Below wr.heap.size wr X)) → Calls Tryz.prog 22 #[.agg #[.string a.name, .int .i64 a.kind, .int .i64 a.num, .string a.text, .slice ai a.ints.length ci, .slice ao a.texts.length ct]] X (fun e w' => e = .returned (.bool false) ∧ Below X.heap.size X w') from fun X h => by
          have hb := h.2.2.2.2.2.2.2.out
          have := RRight_any a _ ai ci ao ct HSA.out X (hat.below hb)
          rw [hr] at this
          exact this)
        have HST := Lib.hid (show ∀ X Y, (X.cell? ⟨bk, o + (p + 1) * 6, none⟩ = some (.string a.name) ∧ X.cell? ⟨bk, o + (p + 1) * 6 + 1, none⟩ = some (.int .i64 a.kind) ∧ X.cell? ⟨bk, o + (p + 1) * 6 + 2, none⟩ = some (.int .i64 a.num) ∧ X.cell? ⟨bk, o + (p + 1) * 6 + 3, none⟩ = some (.string a.text) ∧ X.cell? ⟨bk, o + (p + 1) * 6 + 4, none⟩ = some (.slice ai a.ints.length ci) ∧ X.cell? ⟨bk, o + (p + 1) * 6 + 5, none⟩ = some (.slice ao a.texts.length ct) ∧ X.cell? ⟨bk, o + p * 6, none⟩ = some (.string pn) ∧ Hid (Below wr.heap.size wr X)) → Below X.heap.size X Y → (Y.cell? ⟨bk, o + (p + 1) * 6, none⟩ = some (.string a.name) ∧ Y.cell? ⟨bk, o + (p + 1) * 6 + 1, none⟩ = some (.int .i64 a.kind) ∧ Y.cell? ⟨bk, o + (p + 1) * 6 + 2, none⟩ = some (.int .i64 a.num) ∧ Y.cell? ⟨bk, o + (p + 1) * 6 + 3, none⟩ = some (.string a.text) ∧ Y.cell? ⟨bk, o + (p + 1) * 6 + 4, none⟩ = some (.slice ai a.ints.length ci) ∧ Y.cell? ⟨bk, o + (p + 1) * 6 + 5, none⟩ = some (.slice ao a.texts.length ct) ∧ Y.cell? ⟨bk, o + p * 6, none⟩ = some (.string pn) ∧ Hid (Below wr.heap.size wr Y)) from fun X Y h hb => by
          obtain ⟨h0, h1, h2, h3, h4, h5, h6, hB⟩ := h
          have hc : ∀ {x : Addr} {v : Value}, X.cell? x = some v → Y.cell? x = some v := fun hx => (hb.cell (block_lt_of_cell hx)).trans hx
          exact ⟨hc h0, hc h1, hc h2, hc h3, hc h4, hc h5, hc h6, hB.out.trans (hb.mono hB.out.size)⟩)
        have HSD : wr.drew.cell? ⟨bk, o + (p + 1) * 6, none⟩ = some (.string a.name) ∧ wr.drew.cell? ⟨bk, o + (p + 1) * 6 + 1, none⟩ = some (.int .i64 a.kind) ∧ wr.drew.cell? ⟨bk, o + (p + 1) * 6 + 2, none⟩ = some (.int .i64 a.num) ∧ wr.drew.cell? ⟨bk, o + (p + 1) * 6 + 3, none⟩ = some (.string a.text) ∧ wr.drew.cell? ⟨bk, o + (p + 1) * 6 + 4, none⟩ = some (.slice ai a.ints.length ci) ∧ wr.drew.cell? ⟨bk, o + (p + 1) * 6 + 5, none⟩ = some (.slice ao a.texts.length ct) ∧ wr.drew.cell? ⟨bk, o + p * 6, none⟩ = some (.string pn) ∧ Hid (Below wr.heap.size wr wr.drew) := ⟨c0, c1, c2, c3, c4, c5, p0, (Below.refl wr.heap.size wr).drew⟩
        clear c0 c1 c2 c3 c4 c5 hat HEL HPR HSA p0
        go_upto_region 4 with fail
        refine wp_region_held_drew (S := fun w' => w'.cell? ⟨bk, o + (p + 1) * 6, none⟩ = some (.string a.name) ∧ w'.cell? ⟨bk, o + (p + 1) * 6 + 1, none⟩ = some (.int .i64 a.kind) ∧ w'.cell? ⟨bk, o + (p + 1) * 6 + 2, none⟩ = some (.int .i64 a.num) ∧ w'.cell? ⟨bk, o + (p + 1) * 6 + 3, none⟩ = some (.string a.text) ∧ w'.cell? ⟨bk, o + (p + 1) * 6 + 4, none⟩ = some (.slice ai a.ints.length ci) ∧ w'.cell? ⟨bk, o + (p + 1) * 6 + 5, none⟩ = some (.slice ao a.texts.length ct) ∧ w'.cell? ⟨bk, o + p * 6, none⟩ = some (.string pn) ∧ Hid (Below wr.heap.size wr w')) (by kernel_rfl) HSD (fun hHeld => ?_)
        refine wpAnyH_take (i := 0) (v := .slice (some ⟨bk, o, none⟩) l.length c) rfl (by kernel_rfl) (by kernel_rfl) (by kernel_rfl) (fun _ _ _ h => h) (Or.inl ⟨by rfl, ?_⟩) hHeld ?_
        · intro w hSw
          try dsimp only at hSw
          go_simp
        simp only [Act.put, List.getElem_toArray, List.getElem_cons_zero, List.setIfInBounds_toArray, List.set_cons_succ, List.set_cons_zero]
        refine wpAnyH_take (i := 1) (v := .int .i64 ((p + 1 : Nat) : Int)) rfl (by kernel_rfl) (by kernel_rfl) (by kernel_rfl) (fun _ _ _ h => h) (Or.inl ⟨by rfl, ?_⟩) hHeld ?_
        · intro w hSw
          try dsimp only at hSw
          go_simp
        simp only [Act.put, List.getElem_toArray, List.getElem_cons_succ, List.getElem_cons_zero, List.setIfInBounds_toArray, List.set_cons_succ, List.set_cons_zero]
        refine wpAnyH_take (i := 2) (v := .pointer (some ⟨bk, o + (p + 1) * 6, none⟩)) rfl (by kernel_rfl) (by kernel_rfl) (by kernel_rfl) (fun _ _ _ h => h) (Or.inl ⟨by rfl, ?_⟩) hHeld ?_
        · intro w hSw
          try dsimp only at hSw
          go_simp
          intro hx
          exact absurd hx (by omega)
        simp only [Act.put, List.getElem_toArray, List.getElem_cons_succ, List.getElem_cons_zero, List.setIfInBounds_toArray, List.set_cons_succ, List.set_cons_zero]
        refine wpAnyH_take (i := 3) (v := .agg #[.string a.name, .int .i64 a.kind, .int .i64 a.num, .string a.text, .slice ai a.ints.length ci, .slice ao a.texts.length ct]) rfl (by kernel_rfl) (by kernel_rfl) (by kernel_rfl) (fun _ _ _ h => h) (Or.inl ⟨by rfl, ?_⟩) hHeld ?_
        · intro w hSw
          try dsimp only at hSw
          go_simp
        simp only [Act.put, List.getElem_toArray, List.getElem_cons_succ, List.getElem_cons_zero, List.setIfInBounds_toArray, List.set_cons_succ, List.set_cons_zero]
        refine wpAnyH_ready (rs := [4]) (by kernel_rfl) (by simp) ?_
        refine AllReadyH.cons rfl (fun K hK => ?_) AllReadyH.nil
        go_simp
        go_at_call 22
        with_reducible refine (HRR.out _ hHeld).mono ?_
        rintro e w' ⟨rfl, hb⟩
        try dsimp only
        refine hK.out _ _ (HST.out _ _ hHeld hb) (fun hHeld2 => ?_)
        clear hK K hb hHeld HRR
        try simp only [Act.put, List.getElem_toArray, List.getElem_cons_succ, List.getElem_cons_zero, List.setIfInBounds_toArray, List.set_cons_succ, List.set_cons_zero]
        refine wpAnyH_take (i := 5) (v := .bool true) rfl (by kernel_rfl) (by kernel_rfl) (by kernel_rfl) (fun _ _ _ h => h) (Or.inl ⟨by rfl, ?_⟩) hHeld2 ?_
        · intro w hSw
          try dsimp only at hSw
          go_simp
        simp only [Act.put, List.getElem_toArray, List.getElem_cons_succ, List.getElem_cons_zero, List.setIfInBounds_toArray, List.set_cons_succ, List.set_cons_zero]
        refine wpAnyH_take (i := 6) (v := .bool true) rfl (by kernel_rfl) (by kernel_rfl) (by kernel_rfl) (fun _ _ _ h => h) (Or.inl ⟨by rfl, ?_⟩) hHeld2 ?_
        · intro w hSw
          try dsimp only at hSw
          go_simp
        simp only [Act.put, List.getElem_toArray, List.getElem_cons_succ, List.getElem_cons_zero, List.setIfInBounds_toArray, List.set_cons_succ, List.set_cons_zero]
        refine wpAnyH_take (i := 7) (v := undef) rfl (by kernel_rfl) (by kernel_rfl) (by kernel_rfl) (fun _ _ _ h => h) (Or.inr ⟨by rfl, rfl⟩) hHeld2 ?_
        simp only [Act.put, List.getElem_toArray, List.getElem_cons_succ, List.getElem_cons_zero, List.setIfInBounds_toArray, List.set_cons_succ, List.set_cons_zero]
        refine wpAnyH_take (i := 8) (v := undef) rfl (by kernel_rfl) (by kernel_rfl) (by kernel_rfl) (fun _ _ _ h => h) (Or.inr ⟨by rfl, rfl⟩) hHeld2 ?_
        simp only [Act.put, List.getElem_toArray, List.getElem_cons_succ, List.getElem_cons_zero, List.setIfInBounds_toArray, List.set_cons_succ, List.set_cons_zero]
        refine wpAnyH_take (i := 9) (v := undef) rfl (by kernel_rfl) (by kernel_rfl) (by kernel_rfl) (fun _ _ _ h => h) (Or.inr ⟨by rfl, rfl⟩) hHeld2 ?_
        simp only [Act.put, List.getElem_toArray, List.getElem_cons_succ, List.getElem_cons_zero, List.setIfInBounds_toArray, List.set_cons_succ, List.set_cons_zero]
        refine wpAnyH_take (i := 10) (v := undef) rfl (by kernel_rfl) (by kernel_rfl) (by kernel_rfl) (fun _ _ _ h => h) (Or.inr ⟨by rfl, rfl⟩) hHeld2 ?_
        simp only [Act.put, List.getElem_toArray, List.getElem_cons_succ, List.getElem_cons_zero, List.setIfInBounds_toArray, List.set_cons_succ, List.set_cons_zero]
        refine wpAnyH_take (i := 11) (v := undef) rfl (by kernel_rfl) (by kernel_rfl) (by kernel_rfl) (fun _ _ _ h => h) (Or.inr ⟨by rfl, rfl⟩) hHeld2 ?_
        simp only [Act.put, List.getElem_toArray, List.getElem_cons_succ, List.getElem_cons_zero, List.setIfInBounds_toArray, List.set_cons_succ, List.set_cons_zero]
        refine wpAnyH_take (i := 12) (v := undef) rfl (by kernel_rfl) (by kernel_rfl) (by kernel_rfl) (fun _ _ _ h => h) (Or.inr ⟨by rfl, rfl⟩) hHeld2 ?_
        simp only [Act.put, List.getElem_toArray, List.getElem_cons_succ, List.getElem_cons_zero, List.setIfInBounds_toArray, List.set_cons_succ, List.set_cons_zero]
        refine wpAnyH_take (i := 13) (v := undef) rfl (by kernel_rfl) (by kernel_rfl) (by kernel_rfl) (fun _ _ _ h => h) (Or.inr ⟨by rfl, rfl⟩) hHeld2 ?_
        simp only [Act.put, List.getElem_toArray, List.getElem_cons_succ, List.getElem_cons_zero, List.setIfInBounds_toArray, List.set_cons_succ, List.set_cons_zero]
        refine wpAnyH_take (i := 14) (v := undef) rfl (by kernel_rfl) (by kernel_rfl) (by kernel_rfl) (fun _ _ _ h => h) (Or.inr ⟨by rfl, rfl⟩) hHeld2 ?_
        simp only [Act.put, List.getElem_toArray, List.getElem_cons_succ, List.getElem_cons_zero, List.setIfInBounds_toArray, List.set_cons_succ, List.set_cons_zero]
        refine wpAnyH_take (i := 15) (v := undef) rfl (by kernel_rfl) (by kernel_rfl) (by kernel_rfl) (fun _ _ _ h => h) (Or.inr ⟨by rfl, rfl⟩) hHeld2 ?_
        simp only [Act.put, List.getElem_toArray, List.getElem_cons_succ, List.getElem_cons_zero, List.setIfInBounds_toArray, List.set_cons_succ, List.set_cons_zero]
        refine wpAnyH_take (i := 16) (v := undef) rfl (by kernel_rfl) (by kernel_rfl) (by kernel_rfl) (fun _ _ _ h => h) (Or.inr ⟨by rfl, rfl⟩) hHeld2 ?_
        simp only [Act.put, List.getElem_toArray, List.getElem_cons_succ, List.getElem_cons_zero, List.setIfInBounds_toArray, List.set_cons_succ, List.set_cons_zero]
        refine wpAnyH_take (i := 17) (v := undef) rfl (by kernel_rfl) (by kernel_rfl) (by kernel_rfl) (fun _ _ _ h => h) (Or.inr ⟨by rfl, rfl⟩) hHeld2 ?_
        simp only [Act.put, List.getElem_toArray, List.getElem_cons_succ, List.getElem_cons_zero, List.setIfInBounds_toArray, List.set_cons_succ, List.set_cons_zero]
        refine wpAnyH_take (i := 18) (v := undef) rfl (by kernel_rfl) (by kernel_rfl) (by kernel_rfl) (fun _ _ _ h => h) (Or.inr ⟨by rfl, rfl⟩) hHeld2 ?_
        simp only [Act.put, List.getElem_toArray, List.getElem_cons_succ, List.getElem_cons_zero, List.setIfInBounds_toArray, List.set_cons_succ, List.set_cons_zero]
        refine wpAnyH_take (i := 19) (v := undef) rfl (by kernel_rfl) (by kernel_rfl) (by kernel_rfl) (fun _ _ _ h => h) (Or.inr ⟨by rfl, rfl⟩) hHeld2 ?_
        simp only [Act.put, List.getElem_toArray, List.getElem_cons_succ, List.getElem_cons_zero, List.setIfInBounds_toArray, List.set_cons_succ, List.set_cons_zero]
        refine wpAnyH_take (i := 20) (v := undef) rfl (by kernel_rfl) (by kernel_rfl) (by kernel_rfl) (fun _ _ _ h => h) (Or.inr ⟨by rfl, rfl⟩) hHeld2 ?_
        simp only [Act.put, List.getElem_toArray, List.getElem_cons_succ, List.getElem_cons_zero, List.setIfInBounds_toArray, List.set_cons_succ, List.set_cons_zero]
        refine wpAnyH_take (i := 21) (v := undef) rfl (by kernel_rfl) (by kernel_rfl) (by kernel_rfl) (fun _ _ _ h => h) (Or.inr ⟨by rfl, rfl⟩) hHeld2 ?_
        simp only [Act.put, List.getElem_toArray, List.getElem_cons_succ, List.getElem_cons_zero, List.setIfInBounds_toArray, List.set_cons_succ, List.set_cons_zero]
        refine wpAnyH_take (i := 22) (v := undef) rfl (by kernel_rfl) (by kernel_rfl) (by kernel_rfl) (fun _ _ _ h => h) (Or.inr ⟨by rfl, rfl⟩) hHeld2 ?_
        simp only [Act.put, List.getElem_toArray, List.getElem_cons_succ, List.getElem_cons_zero, List.setIfInBounds_toArray, List.set_cons_succ, List.set_cons_zero]
        refine wpAnyH_take (i := 23) (v := .bool true) rfl (by kernel_rfl) (by kernel_rfl) (by kernel_rfl) (fun _ _ _ h => h) (Or.inl ⟨by rfl, ?_⟩) hHeld2 ?_
        · intro w hSw
          try dsimp only at hSw
          go_simp
        simp only [Act.put, List.getElem_toArray, List.getElem_cons_succ, List.getElem_cons_zero, List.setIfInBounds_toArray, List.set_cons_succ, List.set_cons_zero]
        refine wpAnyH_done (by kernel_rfl) ?_ _
        have BX := Lib.hid (hh.out.2.trans ((hHeld2.2.2.2.2.2.2.2.out).mono hh.out.2.size))
        clear hHeld2 HST HSD
        go_wp2_with fail
        go_ret
        exact ⟨by rw [hf.out]; rfl, BX.out⟩
      | true =>
        cases hls : Op.bytesLess pn.toList a.name.toList with
        | false =>
          have hf := Lib.hid (show rightL l = false from rightL_bad hlt (by rw [HG.out, hr]; unfold lessB; rw [hls]; simp))
          have HRR := Lib.hid (show ∀ X, (X.cell? ⟨bk, o + (p + 1) * 6, none⟩ = some (.string a.name) ∧ X.cell? ⟨bk, o + (p + 1) * 6 + 1, none⟩ = some (.int .i64 a.kind) ∧ X.cell? ⟨bk, o + (p + 1) * 6 + 2, none⟩ = some (.int .i64 a.num) ∧ X.cell? ⟨bk, o + (p + 1) * 6 + 3, none⟩ = some (.string a.text) ∧ X.cell? ⟨bk, o + (p + 1) * 6 + 4, none⟩ = some (.slice ai a.ints.length ci) ∧ X.cell? ⟨bk, o + (p + 1) * 6 + 5, none⟩ = some (.slice ao a.texts.length ct) ∧ X.cell? ⟨bk, o + p * 6, none⟩ = some (.string pn) ∧ Hid (Below wr.heap.size wr X)) → Calls Tryz.prog 22 #[.agg #[.string a.name, .int .i64 a.kind, .int .i64 a.num, .string a.text, .slice ai a.ints.length ci, .slice ao a.texts.length ct]] X (fun e w' => e = .returned (.bool true) ∧ Below X.heap.size X w') from fun X h => by
            have hb := h.2.2.2.2.2.2.2.out
            have := RRight_any a _ ai ci ao ct HSA.out X (hat.below hb)
            rw [hr] at this
            exact this)
          have HST := Lib.hid (show ∀ X Y, (X.cell? ⟨bk, o + (p + 1) * 6, none⟩ = some (.string a.name) ∧ X.cell? ⟨bk, o + (p + 1) * 6 + 1, none⟩ = some (.int .i64 a.kind) ∧ X.cell? ⟨bk, o + (p + 1) * 6 + 2, none⟩ = some (.int .i64 a.num) ∧ X.cell? ⟨bk, o + (p + 1) * 6 + 3, none⟩ = some (.string a.text) ∧ X.cell? ⟨bk, o + (p + 1) * 6 + 4, none⟩ = some (.slice ai a.ints.length ci) ∧ X.cell? ⟨bk, o + (p + 1) * 6 + 5, none⟩ = some (.slice ao a.texts.length ct) ∧ X.cell? ⟨bk, o + p * 6, none⟩ = some (.string pn) ∧ Hid (Below wr.heap.size wr X)) → Below X.heap.size X Y → (Y.cell? ⟨bk, o + (p + 1) * 6, none⟩ = some (.string a.name) ∧ Y.cell? ⟨bk, o + (p + 1) * 6 + 1, none⟩ = some (.int .i64 a.kind) ∧ Y.cell? ⟨bk, o + (p + 1) * 6 + 2, none⟩ = some (.int .i64 a.num) ∧ Y.cell? ⟨bk, o + (p + 1) * 6 + 3, none⟩ = some (.string a.text) ∧ Y.cell? ⟨bk, o + (p + 1) * 6 + 4, none⟩ = some (.slice ai a.ints.length ci) ∧ Y.cell? ⟨bk, o + (p + 1) * 6 + 5, none⟩ = some (.slice ao a.texts.length ct) ∧ Y.cell? ⟨bk, o + p * 6, none⟩ = some (.string pn) ∧ Hid (Below wr.heap.size wr Y)) from fun X Y h hb => by
            obtain ⟨h0, h1, h2, h3, h4, h5, h6, hB⟩ := h
            have hc : ∀ {x : Addr} {v : Value}, X.cell? x = some v → Y.cell? x = some v := fun hx => (hb.cell (block_lt_of_cell hx)).trans hx
            exact ⟨hc h0, hc h1, hc h2, hc h3, hc h4, hc h5, hc h6, hB.out.trans (hb.mono hB.out.size)⟩)
          have HSD : wr.drew.cell? ⟨bk, o + (p + 1) * 6, none⟩ = some (.string a.name) ∧ wr.drew.cell? ⟨bk, o + (p + 1) * 6 + 1, none⟩ = some (.int .i64 a.kind) ∧ wr.drew.cell? ⟨bk, o + (p + 1) * 6 + 2, none⟩ = some (.int .i64 a.num) ∧ wr.drew.cell? ⟨bk, o + (p + 1) * 6 + 3, none⟩ = some (.string a.text) ∧ wr.drew.cell? ⟨bk, o + (p + 1) * 6 + 4, none⟩ = some (.slice ai a.ints.length ci) ∧ wr.drew.cell? ⟨bk, o + (p + 1) * 6 + 5, none⟩ = some (.slice ao a.texts.length ct) ∧ wr.drew.cell? ⟨bk, o + p * 6, none⟩ = some (.string pn) ∧ Hid (Below wr.heap.size wr wr.drew) := ⟨c0, c1, c2, c3, c4, c5, p0, (Below.refl wr.heap.size wr).drew⟩
          clear c0 c1 c2 c3 c4 c5 hat HEL HPR HSA p0
          go_upto_region 4 with fail
          refine wp_region_held_drew (S := fun w' => w'.cell? ⟨bk, o + (p + 1) * 6, none⟩ = some (.string a.name) ∧ w'.cell? ⟨bk, o + (p + 1) * 6 + 1, none⟩ = some (.int .i64 a.kind) ∧ w'.cell? ⟨bk, o + (p + 1) * 6 + 2, none⟩ = some (.int .i64 a.num) ∧ w'.cell? ⟨bk, o + (p + 1) * 6 + 3, none⟩ = some (.string a.text) ∧ w'.cell? ⟨bk, o + (p + 1) * 6 + 4, none⟩ = some (.slice ai a.ints.length ci) ∧ w'.cell? ⟨bk, o + (p + 1) * 6 + 5, none⟩ = some (.slice ao a.texts.length ct) ∧ w'.cell? ⟨bk, o + p * 6, none⟩ = some (.string pn) ∧ Hid (Below wr.heap.size wr w')) (by kernel_rfl) HSD (fun hHeld => ?_)
          refine wpAnyH_take (i := 0) (v := .slice (some ⟨bk, o, none⟩) l.length c) rfl (by kernel_rfl) (by kernel_rfl) (by kernel_rfl) (fun _ _ _ h => h) (Or.inl ⟨by rfl, ?_⟩) hHeld ?_
          · intro w hSw
            try dsimp only at hSw
            go_simp
          simp only [Act.put, List.getElem_toArray, List.getElem_cons_zero, List.setIfInBounds_toArray, List.set_cons_succ, List.set_cons_zero]
          refine wpAnyH_take (i := 1) (v := .int .i64 ((p + 1 : Nat) : Int)) rfl (by kernel_rfl) (by kernel_rfl) (by kernel_rfl) (fun _ _ _ h => h) (Or.inl ⟨by rfl, ?_⟩) hHeld ?_
          · intro w hSw
            try dsimp only at hSw
            go_simp
          simp only [Act.put, List.getElem_toArray, List.getElem_cons_succ, List.getElem_cons_zero, List.setIfInBounds_toArray, List.set_cons_succ, List.set_cons_zero]
          refine wpAnyH_take (i := 2) (v := .pointer (some ⟨bk, o + (p + 1) * 6, none⟩)) rfl (by kernel_rfl) (by kernel_rfl) (by kernel_rfl) (fun _ _ _ h => h) (Or.inl ⟨by rfl, ?_⟩) hHeld ?_
          · intro w hSw
            try dsimp only at hSw
            go_simp
            intro hx
            exact absurd hx (by omega)
          simp only [Act.put, List.getElem_toArray, List.getElem_cons_succ, List.getElem_cons_zero, List.setIfInBounds_toArray, List.set_cons_succ, List.set_cons_zero]
          refine wpAnyH_take (i := 3) (v := .agg #[.string a.name, .int .i64 a.kind, .int .i64 a.num, .string a.text, .slice ai a.ints.length ci, .slice ao a.texts.length ct]) rfl (by kernel_rfl) (by kernel_rfl) (by kernel_rfl) (fun _ _ _ h => h) (Or.inl ⟨by rfl, ?_⟩) hHeld ?_
          · intro w hSw
            try dsimp only at hSw
            go_simp
          simp only [Act.put, List.getElem_toArray, List.getElem_cons_succ, List.getElem_cons_zero, List.setIfInBounds_toArray, List.set_cons_succ, List.set_cons_zero]
          refine wpAnyH_ready (rs := [4]) (by kernel_rfl) (by simp) ?_
          refine AllReadyH.cons rfl (fun K hK => ?_) AllReadyH.nil
          go_simp
          go_at_call 22
          with_reducible refine (HRR.out _ hHeld).mono ?_
          rintro e w' ⟨rfl, hb⟩
          try dsimp only
          refine hK.out _ _ (HST.out _ _ hHeld hb) (fun hHeld2 => ?_)
          clear hK K hb hHeld HRR
          try simp only [Act.put, List.getElem_toArray, List.getElem_cons_succ, List.getElem_cons_zero, List.setIfInBounds_toArray, List.set_cons_succ, List.set_cons_zero]
          refine wpAnyH_take (i := 5) (v := .bool false) rfl (by kernel_rfl) (by kernel_rfl) (by kernel_rfl) (fun _ _ _ h => h) (Or.inl ⟨by rfl, ?_⟩) hHeld2 ?_
          · intro w hSw
            try dsimp only at hSw
            go_simp
          simp only [Act.put, List.getElem_toArray, List.getElem_cons_succ, List.getElem_cons_zero, List.setIfInBounds_toArray, List.set_cons_succ, List.set_cons_zero]
          refine wpAnyH_take (i := 6) (v := .bool false) rfl (by kernel_rfl) (by kernel_rfl) (by kernel_rfl) (fun _ _ _ h => h) (Or.inl ⟨by rfl, ?_⟩) hHeld2 ?_
          · intro w hSw
            try dsimp only at hSw
            go_simp
          simp only [Act.put, List.getElem_toArray, List.getElem_cons_succ, List.getElem_cons_zero, List.setIfInBounds_toArray, List.set_cons_succ, List.set_cons_zero]
          refine wpAnyH_take (i := 7) (v := .int .i64 ((p + 1 : Nat) : Int)) rfl (by kernel_rfl) (by kernel_rfl) (by kernel_rfl) (fun _ _ _ h => h) (Or.inl ⟨by rfl, ?_⟩) hHeld2 ?_
          · intro w hSw
            try dsimp only at hSw
            go_simp
          simp only [Act.put, List.getElem_toArray, List.getElem_cons_succ, List.getElem_cons_zero, List.setIfInBounds_toArray, List.set_cons_succ, List.set_cons_zero]
          refine wpAnyH_take (i := 8) (v := .bool true) rfl (by kernel_rfl) (by kernel_rfl) (by kernel_rfl) (fun _ _ _ h => h) (Or.inl ⟨by rfl, ?_⟩) hHeld2 ?_
          · intro w hSw
            try dsimp only at hSw
            go_simp
          simp only [Act.put, List.getElem_toArray, List.getElem_cons_succ, List.getElem_cons_zero, List.setIfInBounds_toArray, List.set_cons_succ, List.set_cons_zero]
          refine wpAnyH_take (i := 9) (v := .bool true) rfl (by kernel_rfl) (by kernel_rfl) (by kernel_rfl) (fun _ _ _ h => h) (Or.inl ⟨by rfl, ?_⟩) hHeld2 ?_
          · intro w hSw
            try dsimp only at hSw
            go_simp
          simp only [Act.put, List.getElem_toArray, List.getElem_cons_succ, List.getElem_cons_zero, List.setIfInBounds_toArray, List.set_cons_succ, List.set_cons_zero]
          refine wpAnyH_take (i := 10) (v := .slice (some ⟨bk, o, none⟩) l.length c) rfl (by kernel_rfl) (by kernel_rfl) (by kernel_rfl) (fun _ _ _ h => h) (Or.inl ⟨by rfl, ?_⟩) hHeld2 ?_
          · intro w hSw
            try dsimp only at hSw
            go_simp
          simp only [Act.put, List.getElem_toArray, List.getElem_cons_succ, List.getElem_cons_zero, List.setIfInBounds_toArray, List.set_cons_succ, List.set_cons_zero]
          refine wpAnyH_take (i := 11) (v := .int .i64 ((p + 1 : Nat) : Int)) rfl (by kernel_rfl) (by kernel_rfl) (by kernel_rfl) (fun _ _ _ h => h) (Or.inl ⟨by rfl, ?_⟩) hHeld2 ?_
          · intro w hSw
            try dsimp only at hSw
            go_simp
          simp only [Act.put, List.getElem_toArray, List.getElem_cons_succ, List.getElem_cons_zero, List.setIfInBounds_toArray, List.set_cons_succ, List.set_cons_zero]
          refine wpAnyH_take (i := 12) (v := .int .i64 (p : Int)) rfl (by kernel_rfl) (by kernel_rfl) (by kernel_rfl) (fun _ _ _ h => h) (Or.inl ⟨by rfl, ?_⟩) hHeld2 ?_
          · intro w hSw
            try dsimp only at hSw
            go_simp
            rw [IntKind.wrap_i64]; omega
          simp only [Act.put, List.getElem_toArray, List.getElem_cons_succ, List.getElem_cons_zero, List.setIfInBounds_toArray, List.set_cons_succ, List.set_cons_zero]
          refine wpAnyH_take (i := 13) (v := .pointer (some ⟨bk, o + p * 6, none⟩)) rfl (by kernel_rfl) (by kernel_rfl) (by kernel_rfl) (fun _ _ _ h => h) (Or.inl ⟨by rfl, ?_⟩) hHeld2 ?_
          · intro w hSw
            try dsimp only at hSw
            go_simp
          simp only [Act.put, List.getElem_toArray, List.getElem_cons_succ, List.getElem_cons_zero, List.setIfInBounds_toArray, List.set_cons_succ, List.set_cons_zero]
          refine wpAnyH_take (i := 14) (v := .pointer (some ⟨bk, o + p * 6, none⟩)) rfl (by kernel_rfl) (by kernel_rfl) (by kernel_rfl) (fun _ _ _ h => h) (Or.inl ⟨by rfl, ?_⟩) hHeld2 ?_
          · intro w hSw
            try dsimp only at hSw
            go_simp
          simp only [Act.put, List.getElem_toArray, List.getElem_cons_succ, List.getElem_cons_zero, List.setIfInBounds_toArray, List.set_cons_succ, List.set_cons_zero]
          refine wpAnyH_take (i := 15) (v := .string pn) rfl (by kernel_rfl) (by kernel_rfl) (by kernel_rfl) (fun _ _ _ h => h) (Or.inl ⟨by rfl, ?_⟩) hHeld2 ?_
          · intro w hSw
            try dsimp only at hSw
            go_simp
          simp only [Act.put, List.getElem_toArray, List.getElem_cons_succ, List.getElem_cons_zero, List.setIfInBounds_toArray, List.set_cons_succ, List.set_cons_zero]
          refine wpAnyH_take (i := 16) (v := .slice (some ⟨bk, o, none⟩) l.length c) rfl (by kernel_rfl) (by kernel_rfl) (by kernel_rfl) (fun _ _ _ h => h) (Or.inl ⟨by rfl, ?_⟩) hHeld2 ?_
          · intro w hSw
            try dsimp only at hSw
            go_simp
          simp only [Act.put, List.getElem_toArray, List.getElem_cons_succ, List.getElem_cons_zero, List.setIfInBounds_toArray, List.set_cons_succ, List.set_cons_zero]
          refine wpAnyH_take (i := 17) (v := .int .i64 ((p + 1 : Nat) : Int)) rfl (by kernel_rfl) (by kernel_rfl) (by kernel_rfl) (fun _ _ _ h => h) (Or.inl ⟨by rfl, ?_⟩) hHeld2 ?_
          · intro w hSw
            try dsimp only at hSw
            go_simp
          simp only [Act.put, List.getElem_toArray, List.getElem_cons_succ, List.getElem_cons_zero, List.setIfInBounds_toArray, List.set_cons_succ, List.set_cons_zero]
          refine wpAnyH_take (i := 18) (v := .pointer (some ⟨bk, o + (p + 1) * 6, none⟩)) rfl (by kernel_rfl) (by kernel_rfl) (by kernel_rfl) (fun _ _ _ h => h) (Or.inl ⟨by rfl, ?_⟩) hHeld2 ?_
          · intro w hSw
            try dsimp only at hSw
            go_simp
            intro hx
            exact absurd hx (by omega)
          simp only [Act.put, List.getElem_toArray, List.getElem_cons_succ, List.getElem_cons_zero, List.setIfInBounds_toArray, List.set_cons_succ, List.set_cons_zero]
          refine wpAnyH_take (i := 19) (v := .pointer (some ⟨bk, o + (p + 1) * 6, none⟩)) rfl (by kernel_rfl) (by kernel_rfl) (by kernel_rfl) (fun _ _ _ h => h) (Or.inl ⟨by rfl, ?_⟩) hHeld2 ?_
          · intro w hSw
            try dsimp only at hSw
            go_simp
          simp only [Act.put, List.getElem_toArray, List.getElem_cons_succ, List.getElem_cons_zero, List.setIfInBounds_toArray, List.set_cons_succ, List.set_cons_zero]
          refine wpAnyH_take (i := 20) (v := .string a.name) rfl (by kernel_rfl) (by kernel_rfl) (by kernel_rfl) (fun _ _ _ h => h) (Or.inl ⟨by rfl, ?_⟩) hHeld2 ?_
          · intro w hSw
            try dsimp only at hSw
            go_simp
          simp only [Act.put, List.getElem_toArray, List.getElem_cons_succ, List.getElem_cons_zero, List.setIfInBounds_toArray, List.set_cons_succ, List.set_cons_zero]
          refine wpAnyH_take (i := 21) (v := .bool true) rfl (by kernel_rfl) (by kernel_rfl) (by kernel_rfl) (fun _ _ _ h => h) (Or.inl ⟨by rfl, ?_⟩) hHeld2 ?_
          · intro w hSw
            try dsimp only at hSw
            go_simp
          simp only [Act.put, List.getElem_toArray, List.getElem_cons_succ, List.getElem_cons_zero, List.setIfInBounds_toArray, List.set_cons_succ, List.set_cons_zero]
          refine wpAnyH_take (i := 22) (v := .bool true) rfl (by kernel_rfl) (by kernel_rfl) (by kernel_rfl) (fun _ _ _ h => h) (Or.inl ⟨by rfl, ?_⟩) hHeld2 ?_
          · intro w hSw
            try dsimp only at hSw
            go_simp
          simp only [Act.put, List.getElem_toArray, List.getElem_cons_succ, List.getElem_cons_zero, List.setIfInBounds_toArray, List.set_cons_succ, List.set_cons_zero]
          refine wpAnyH_take (i := 23) (v := .bool true) rfl (by kernel_rfl) (by kernel_rfl) (by kernel_rfl) (fun _ _ _ h => h) (Or.inl ⟨by rfl, ?_⟩) hHeld2 ?_
          · intro w hSw
            try dsimp only at hSw
            go_simp
          simp only [Act.put, List.getElem_toArray, List.getElem_cons_succ, List.getElem_cons_zero, List.setIfInBounds_toArray, List.set_cons_succ, List.set_cons_zero]
          refine wpAnyH_done (by kernel_rfl) ?_ _
          have BX := Lib.hid (hh.out.2.trans ((hHeld2.2.2.2.2.2.2.2.out).mono hh.out.2.size))
          clear hHeld2 HST HSD
          go_wp2_with fail
          go_ret
          exact ⟨by rw [hf.out]; rfl, BX.out⟩
        | true =>
          have HGO := Lib.hid (show ∀ j, j < p + 1 + 1 → goodAt l j = true from fun j hj => by
            by_cases hjp : j < p + 1
            · exact hh.out.1 j hjp
            · obtain rfl : j = p + 1 := by omega
              rw [HG.out, hr]; unfold lessB; rw [hls]; simp)
          have HRR := Lib.hid (show ∀ X, (X.cell? ⟨bk, o + (p + 1) * 6, none⟩ = some (.string a.name) ∧ X.cell? ⟨bk, o + (p + 1) * 6 + 1, none⟩ = some (.int .i64 a.kind) ∧ X.cell? ⟨bk, o + (p + 1) * 6 + 2, none⟩ = some (.int .i64 a.num) ∧ X.cell? ⟨bk, o + (p + 1) * 6 + 3, none⟩ = some (.string a.text) ∧ X.cell? ⟨bk, o + (p + 1) * 6 + 4, none⟩ = some (.slice ai a.ints.length ci) ∧ X.cell? ⟨bk, o + (p + 1) * 6 + 5, none⟩ = some (.slice ao a.texts.length ct) ∧ X.cell? ⟨bk, o + p * 6, none⟩ = some (.string pn) ∧ Hid (Below wr.heap.size wr X)) → Calls Tryz.prog 22 #[.agg #[.string a.name, .int .i64 a.kind, .int .i64 a.num, .string a.text, .slice ai a.ints.length ci, .slice ao a.texts.length ct]] X (fun e w' => e = .returned (.bool true) ∧ Below X.heap.size X w') from fun X h => by
            have hb := h.2.2.2.2.2.2.2.out
            have := RRight_any a _ ai ci ao ct HSA.out X (hat.below hb)
            rw [hr] at this
            exact this)
          have HST := Lib.hid (show ∀ X Y, (X.cell? ⟨bk, o + (p + 1) * 6, none⟩ = some (.string a.name) ∧ X.cell? ⟨bk, o + (p + 1) * 6 + 1, none⟩ = some (.int .i64 a.kind) ∧ X.cell? ⟨bk, o + (p + 1) * 6 + 2, none⟩ = some (.int .i64 a.num) ∧ X.cell? ⟨bk, o + (p + 1) * 6 + 3, none⟩ = some (.string a.text) ∧ X.cell? ⟨bk, o + (p + 1) * 6 + 4, none⟩ = some (.slice ai a.ints.length ci) ∧ X.cell? ⟨bk, o + (p + 1) * 6 + 5, none⟩ = some (.slice ao a.texts.length ct) ∧ X.cell? ⟨bk, o + p * 6, none⟩ = some (.string pn) ∧ Hid (Below wr.heap.size wr X)) → Below X.heap.size X Y → (Y.cell? ⟨bk, o + (p + 1) * 6, none⟩ = some (.string a.name) ∧ Y.cell? ⟨bk, o + (p + 1) * 6 + 1, none⟩ = some (.int .i64 a.kind) ∧ Y.cell? ⟨bk, o + (p + 1) * 6 + 2, none⟩ = some (.int .i64 a.num) ∧ Y.cell? ⟨bk, o + (p + 1) * 6 + 3, none⟩ = some (.string a.text) ∧ Y.cell? ⟨bk, o + (p + 1) * 6 + 4, none⟩ = some (.slice ai a.ints.length ci) ∧ Y.cell? ⟨bk, o + (p + 1) * 6 + 5, none⟩ = some (.slice ao a.texts.length ct) ∧ Y.cell? ⟨bk, o + p * 6, none⟩ = some (.string pn) ∧ Hid (Below wr.heap.size wr Y)) from fun X Y h hb => by
            obtain ⟨h0, h1, h2, h3, h4, h5, h6, hB⟩ := h
            have hc : ∀ {x : Addr} {v : Value}, X.cell? x = some v → Y.cell? x = some v := fun hx => (hb.cell (block_lt_of_cell hx)).trans hx
            exact ⟨hc h0, hc h1, hc h2, hc h3, hc h4, hc h5, hc h6, hB.out.trans (hb.mono hB.out.size)⟩)
          have HSD : wr.drew.cell? ⟨bk, o + (p + 1) * 6, none⟩ = some (.string a.name) ∧ wr.drew.cell? ⟨bk, o + (p + 1) * 6 + 1, none⟩ = some (.int .i64 a.kind) ∧ wr.drew.cell? ⟨bk, o + (p + 1) * 6 + 2, none⟩ = some (.int .i64 a.num) ∧ wr.drew.cell? ⟨bk, o + (p + 1) * 6 + 3, none⟩ = some (.string a.text) ∧ wr.drew.cell? ⟨bk, o + (p + 1) * 6 + 4, none⟩ = some (.slice ai a.ints.length ci) ∧ wr.drew.cell? ⟨bk, o + (p + 1) * 6 + 5, none⟩ = some (.slice ao a.texts.length ct) ∧ wr.drew.cell? ⟨bk, o + p * 6, none⟩ = some (.string pn) ∧ Hid (Below wr.heap.size wr wr.drew) := ⟨c0, c1, c2, c3, c4, c5, p0, (Below.refl wr.heap.size wr).drew⟩
          clear c0 c1 c2 c3 c4 c5 hat HEL HPR HSA p0
          go_upto_region 4 with fail
          refine wp_region_held_drew (S := fun w' => w'.cell? ⟨bk, o + (p + 1) * 6, none⟩ = some (.string a.name) ∧ w'.cell? ⟨bk, o + (p + 1) * 6 + 1, none⟩ = some (.int .i64 a.kind) ∧ w'.cell? ⟨bk, o + (p + 1) * 6 + 2, none⟩ = some (.int .i64 a.num) ∧ w'.cell? ⟨bk, o + (p + 1) * 6 + 3, none⟩ = some (.string a.text) ∧ w'.cell? ⟨bk, o + (p + 1) * 6 + 4, none⟩ = some (.slice ai a.ints.length ci) ∧ w'.cell? ⟨bk, o + (p + 1) * 6 + 5, none⟩ = some (.slice ao a.texts.length ct) ∧ w'.cell? ⟨bk, o + p * 6, none⟩ = some (.string pn) ∧ Hid (Below wr.heap.size wr w')) (by kernel_rfl) HSD (fun hHeld => ?_)
          refine wpAnyH_take (i := 0) (v := .slice (some ⟨bk, o, none⟩) l.length c) rfl (by kernel_rfl) (by kernel_rfl) (by kernel_rfl) (fun _ _ _ h => h) (Or.inl ⟨by rfl, ?_⟩) hHeld ?_
          · intro w hSw
            try dsimp only at hSw
            go_simp
          simp only [Act.put, List.getElem_toArray, List.getElem_cons_zero, List.setIfInBounds_toArray, List.set_cons_succ, List.set_cons_zero]
          refine wpAnyH_take (i := 1) (v := .int .i64 ((p + 1 : Nat) : Int)) rfl (by kernel_rfl) (by kernel_rfl) (by kernel_rfl) (fun _ _ _ h => h) (Or.inl ⟨by rfl, ?_⟩) hHeld ?_
          · intro w hSw
            try dsimp only at hSw
            go_simp
          simp only [Act.put, List.getElem_toArray, List.getElem_cons_succ, List.getElem_cons_zero, List.setIfInBounds_toArray, List.set_cons_succ, List.set_cons_zero]
          refine wpAnyH_take (i := 2) (v := .pointer (some ⟨bk, o + (p + 1) * 6, none⟩)) rfl (by kernel_rfl) (by kernel_rfl) (by kernel_rfl) (fun _ _ _ h => h) (Or.inl ⟨by rfl, ?_⟩) hHeld ?_
          · intro w hSw
            try dsimp only at hSw
            go_simp
            intro hx
            exact absurd hx (by omega)
          simp only [Act.put, List.getElem_toArray, List.getElem_cons_succ, List.getElem_cons_zero, List.setIfInBounds_toArray, List.set_cons_succ, List.set_cons_zero]
          refine wpAnyH_take (i := 3) (v := .agg #[.string a.name, .int .i64 a.kind, .int .i64 a.num, .string a.text, .slice ai a.ints.length ci, .slice ao a.texts.length ct]) rfl (by kernel_rfl) (by kernel_rfl) (by kernel_rfl) (fun _ _ _ h => h) (Or.inl ⟨by rfl, ?_⟩) hHeld ?_
          · intro w hSw
            try dsimp only at hSw
            go_simp
          simp only [Act.put, List.getElem_toArray, List.getElem_cons_succ, List.getElem_cons_zero, List.setIfInBounds_toArray, List.set_cons_succ, List.set_cons_zero]
          refine wpAnyH_ready (rs := [4]) (by kernel_rfl) (by simp) ?_
          refine AllReadyH.cons rfl (fun K hK => ?_) AllReadyH.nil
          go_simp
          go_at_call 22
          with_reducible refine (HRR.out _ hHeld).mono ?_
          rintro e w' ⟨rfl, hb⟩
          try dsimp only
          refine hK.out _ _ (HST.out _ _ hHeld hb) (fun hHeld2 => ?_)
          clear hK K hb hHeld HRR
          try simp only [Act.put, List.getElem_toArray, List.getElem_cons_succ, List.getElem_cons_zero, List.setIfInBounds_toArray, List.set_cons_succ, List.set_cons_zero]
          refine wpAnyH_take (i := 5) (v := .bool false) rfl (by kernel_rfl) (by kernel_rfl) (by kernel_rfl) (fun _ _ _ h => h) (Or.inl ⟨by rfl, ?_⟩) hHeld2 ?_
          · intro w hSw
            try dsimp only at hSw
            go_simp
          simp only [Act.put, List.getElem_toArray, List.getElem_cons_succ, List.getElem_cons_zero, List.setIfInBounds_toArray, List.set_cons_succ, List.set_cons_zero]
          refine wpAnyH_take (i := 6) (v := .bool false) rfl (by kernel_rfl) (by kernel_rfl) (by kernel_rfl) (fun _ _ _ h => h) (Or.inl ⟨by rfl, ?_⟩) hHeld2 ?_
          · intro w hSw
            try dsimp only at hSw
            go_simp
          simp only [Act.put, List.getElem_toArray, List.getElem_cons_succ, List.getElem_cons_zero, List.setIfInBounds_toArray, List.set_cons_succ, List.set_cons_zero]
          refine wpAnyH_take (i := 7) (v := .int .i64 ((p + 1 : Nat) : Int)) rfl (by kernel_rfl) (by kernel_rfl) (by kernel_rfl) (fun _ _ _ h => h) (Or.inl ⟨by rfl, ?_⟩) hHeld2 ?_
          · intro w hSw
            try dsimp only at hSw
            go_simp
          simp only [Act.put, List.getElem_toArray, List.getElem_cons_succ, List.getElem_cons_zero, List.setIfInBounds_toArray, List.set_cons_succ, List.set_cons_zero]
          refine wpAnyH_take (i := 8) (v := .bool true) rfl (by kernel_rfl) (by kernel_rfl) (by kernel_rfl) (fun _ _ _ h => h) (Or.inl ⟨by rfl, ?_⟩) hHeld2 ?_
          · intro w hSw
            try dsimp only at hSw
            go_simp
          simp only [Act.put, List.getElem_toArray, List.getElem_cons_succ, List.getElem_cons_zero, List.setIfInBounds_toArray, List.set_cons_succ, List.set_cons_zero]
          refine wpAnyH_take (i := 9) (v := .bool true) rfl (by kernel_rfl) (by kernel_rfl) (by kernel_rfl) (fun _ _ _ h => h) (Or.inl ⟨by rfl, ?_⟩) hHeld2 ?_
          · intro w hSw
            try dsimp only at hSw
            go_simp
          simp only [Act.put, List.getElem_toArray, List.getElem_cons_succ, List.getElem_cons_zero, List.setIfInBounds_toArray, List.set_cons_succ, List.set_cons_zero]
          refine wpAnyH_take (i := 10) (v := .slice (some ⟨bk, o, none⟩) l.length c) rfl (by kernel_rfl) (by kernel_rfl) (by kernel_rfl) (fun _ _ _ h => h) (Or.inl ⟨by rfl, ?_⟩) hHeld2 ?_
          · intro w hSw
            try dsimp only at hSw
            go_simp
          simp only [Act.put, List.getElem_toArray, List.getElem_cons_succ, List.getElem_cons_zero, List.setIfInBounds_toArray, List.set_cons_succ, List.set_cons_zero]
          refine wpAnyH_take (i := 11) (v := .int .i64 ((p + 1 : Nat) : Int)) rfl (by kernel_rfl) (by kernel_rfl) (by kernel_rfl) (fun _ _ _ h => h) (Or.inl ⟨by rfl, ?_⟩) hHeld2 ?_
          · intro w hSw
            try dsimp only at hSw
            go_simp
          simp only [Act.put, List.getElem_toArray, List.getElem_cons_succ, List.getElem_cons_zero, List.setIfInBounds_toArray, List.set_cons_succ, List.set_cons_zero]
          refine wpAnyH_take (i := 12) (v := .int .i64 (p : Int)) rfl (by kernel_rfl) (by kernel_rfl) (by kernel_rfl) (fun _ _ _ h => h) (Or.inl ⟨by rfl, ?_⟩) hHeld2 ?_
          · intro w hSw
            try dsimp only at hSw
            go_simp
            rw [IntKind.wrap_i64]; omega
          simp only [Act.put, List.getElem_toArray, List.getElem_cons_succ, List.getElem_cons_zero, List.setIfInBounds_toArray, List.set_cons_succ, List.set_cons_zero]
          refine wpAnyH_take (i := 13) (v := .pointer (some ⟨bk, o + p * 6, none⟩)) rfl (by kernel_rfl) (by kernel_rfl) (by kernel_rfl) (fun _ _ _ h => h) (Or.inl ⟨by rfl, ?_⟩) hHeld2 ?_
          · intro w hSw
            try dsimp only at hSw
            go_simp
          simp only [Act.put, List.getElem_toArray, List.getElem_cons_succ, List.getElem_cons_zero, List.setIfInBounds_toArray, List.set_cons_succ, List.set_cons_zero]
          refine wpAnyH_take (i := 14) (v := .pointer (some ⟨bk, o + p * 6, none⟩)) rfl (by kernel_rfl) (by kernel_rfl) (by kernel_rfl) (fun _ _ _ h => h) (Or.inl ⟨by rfl, ?_⟩) hHeld2 ?_
          · intro w hSw
            try dsimp only at hSw
            go_simp
          simp only [Act.put, List.getElem_toArray, List.getElem_cons_succ, List.getElem_cons_zero, List.setIfInBounds_toArray, List.set_cons_succ, List.set_cons_zero]
          refine wpAnyH_take (i := 15) (v := .string pn) rfl (by kernel_rfl) (by kernel_rfl) (by kernel_rfl) (fun _ _ _ h => h) (Or.inl ⟨by rfl, ?_⟩) hHeld2 ?_
          · intro w hSw
            try dsimp only at hSw
            go_simp
          simp only [Act.put, List.getElem_toArray, List.getElem_cons_succ, List.getElem_cons_zero, List.setIfInBounds_toArray, List.set_cons_succ, List.set_cons_zero]
          refine wpAnyH_take (i := 16) (v := .slice (some ⟨bk, o, none⟩) l.length c) rfl (by kernel_rfl) (by kernel_rfl) (by kernel_rfl) (fun _ _ _ h => h) (Or.inl ⟨by rfl, ?_⟩) hHeld2 ?_
          · intro w hSw
            try dsimp only at hSw
            go_simp
          simp only [Act.put, List.getElem_toArray, List.getElem_cons_succ, List.getElem_cons_zero, List.setIfInBounds_toArray, List.set_cons_succ, List.set_cons_zero]
          refine wpAnyH_take (i := 17) (v := .int .i64 ((p + 1 : Nat) : Int)) rfl (by kernel_rfl) (by kernel_rfl) (by kernel_rfl) (fun _ _ _ h => h) (Or.inl ⟨by rfl, ?_⟩) hHeld2 ?_
          · intro w hSw
            try dsimp only at hSw
            go_simp
          simp only [Act.put, List.getElem_toArray, List.getElem_cons_succ, List.getElem_cons_zero, List.setIfInBounds_toArray, List.set_cons_succ, List.set_cons_zero]
          refine wpAnyH_take (i := 18) (v := .pointer (some ⟨bk, o + (p + 1) * 6, none⟩)) rfl (by kernel_rfl) (by kernel_rfl) (by kernel_rfl) (fun _ _ _ h => h) (Or.inl ⟨by rfl, ?_⟩) hHeld2 ?_
          · intro w hSw
            try dsimp only at hSw
            go_simp
            intro hx
            exact absurd hx (by omega)
          simp only [Act.put, List.getElem_toArray, List.getElem_cons_succ, List.getElem_cons_zero, List.setIfInBounds_toArray, List.set_cons_succ, List.set_cons_zero]
          refine wpAnyH_take (i := 19) (v := .pointer (some ⟨bk, o + (p + 1) * 6, none⟩)) rfl (by kernel_rfl) (by kernel_rfl) (by kernel_rfl) (fun _ _ _ h => h) (Or.inl ⟨by rfl, ?_⟩) hHeld2 ?_
          · intro w hSw
            try dsimp only at hSw
            go_simp
          simp only [Act.put, List.getElem_toArray, List.getElem_cons_succ, List.getElem_cons_zero, List.setIfInBounds_toArray, List.set_cons_succ, List.set_cons_zero]
          refine wpAnyH_take (i := 20) (v := .string a.name) rfl (by kernel_rfl) (by kernel_rfl) (by kernel_rfl) (fun _ _ _ h => h) (Or.inl ⟨by rfl, ?_⟩) hHeld2 ?_
          · intro w hSw
            try dsimp only at hSw
            go_simp
          simp only [Act.put, List.getElem_toArray, List.getElem_cons_succ, List.getElem_cons_zero, List.setIfInBounds_toArray, List.set_cons_succ, List.set_cons_zero]
          refine wpAnyH_take (i := 21) (v := .bool false) rfl (by kernel_rfl) (by kernel_rfl) (by kernel_rfl) (fun _ _ _ h => h) (Or.inl ⟨by rfl, ?_⟩) hHeld2 ?_
          · intro w hSw
            try dsimp only at hSw
            go_simp
          simp only [Act.put, List.getElem_toArray, List.getElem_cons_succ, List.getElem_cons_zero, List.setIfInBounds_toArray, List.set_cons_succ, List.set_cons_zero]
          refine wpAnyH_take (i := 22) (v := .bool false) rfl (by kernel_rfl) (by kernel_rfl) (by kernel_rfl) (fun _ _ _ h => h) (Or.inl ⟨by rfl, ?_⟩) hHeld2 ?_
          · intro w hSw
            try dsimp only at hSw
            go_simp
          simp only [Act.put, List.getElem_toArray, List.getElem_cons_succ, List.getElem_cons_zero, List.setIfInBounds_toArray, List.set_cons_succ, List.set_cons_zero]
          refine wpAnyH_take (i := 23) (v := .bool false) rfl (by kernel_rfl) (by kernel_rfl) (by kernel_rfl) (fun _ _ _ h => h) (Or.inl ⟨by rfl, ?_⟩) hHeld2 ?_
          · intro w hSw
            try dsimp only at hSw
            go_simp
          simp only [Act.put, List.getElem_toArray, List.getElem_cons_succ, List.getElem_cons_zero, List.setIfInBounds_toArray, List.set_cons_succ, List.set_cons_zero]
          refine wpAnyH_done (by kernel_rfl) ?_ _
          have BX := Lib.hid (hh.out.2.trans ((hHeld2.2.2.2.2.2.2.2.out).mono hh.out.2.size))
          clear hHeld2 HST HSD
          go_wp2_with fail
          go_roundw
          case rel => exact ⟨p + 1 + 1, by omega, rfl, HGO.out, BX.out⟩
          case measure => simp only [intOf]; omega
end Go.Proofs.YtiofnjnaleglgaaGreatDoor
