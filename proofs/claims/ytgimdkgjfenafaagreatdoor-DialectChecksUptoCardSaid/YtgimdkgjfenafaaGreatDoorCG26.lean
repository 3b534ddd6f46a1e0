import Derived.Test.YtgimdkgjfenafaaGreatDoorCG24
import Derived.Test.YtgimdkgjfenafaaGreatDoorCG25
import Derived.Deep.RegionHeld3
namespace Go.Proofs.YtgimdkgjfenafaaGreatDoor
open Go.RowKit
def between (lo hi : Nat) (w : World) : World := mask (fun k => decide (lo ≤ k) && decide (k < hi)) w
theorem between_of_above {V V' : World} : Keeps (above V.heap.size V') (between V.heap.size V'.heap.size V') := mask_keeps fun k hp hk => ⟨by simp only [decide_eq_true_eq] at hp; simp [hp, hk], rfl⟩
theorem between_below {lo hi : Nat} {X X' : World} (hb : Below X.heap.size X X') : Keeps (between lo hi X) (between lo hi X') := mask_keeps fun k hp hk => ⟨hp, hb.block k hk⟩
def AtBox (W1 X : World) (bo : Nat) : Prop := X.heap[bo]? = some (.cells #[.slice none 0 0, .slice none 0 0] 107 (0, 0)) ∧ W1.heap.size ≤ bo
theorem AtBox.below {W1 X X' : World} {bo : Nat} (h : AtBox W1 X bo) (hb : Below X.heap.size X X') : AtBox W1 X' bo := ⟨(hb.block _ (lt_of_block h.1)).trans h.1, h.2⟩
theorem AtBox.made {W1 X : World} (h : Below W1.heap.size W1 X) : AtBox W1 (X.alloc (.cells #[.slice none 0 0, .slice none 0 0] 107)) X.heap.size := ⟨heap_alloc_new _ _, h.size⟩
def RowIn (W1 X : World) (ao : Option Addr) (rs : List Rule) (lo hi : Nat) : Prop := RulesAt (between lo hi X) ao rs ∧ W1.heap.size ≤ lo ∧ hi ≤ X.heap.size
theorem RowIn.below {W1 X X' : World} {ao : Option Addr} {rs : List Rule} {lo hi : Nat} (h : RowIn W1 X ao rs lo hi) (hb : Below X.heap.size X X') : RowIn W1 X' ao rs lo hi := ⟨RowIs.keeps h.1 (between_below hb), h.2.1, Nat.le_trans h.2.2 hb.size⟩
theorem RowIn.made {W1 V V' : World} {ao : Option Addr} {rs : List Rule} (h : RulesAt (above V.heap.size V') ao rs) (hB : Below W1.heap.size W1 V) : RowIn W1 V' ao rs V.heap.size V'.heap.size := ⟨RowIs.keeps h between_of_above, hB.size, Nat.le_refl _⟩
structure SgS (W1 X : World) (bo : Nat) (i o : List Rule) (n m : Nat) (ai : Option Addr) (ci : Nat) (ao : Option Addr) (co : Nat) : Prop where
 below : Below W1.heap.size W1 X
 box : X.heap[bo]? = some (.cells #[.slice ai n ci, .slice ao m co] 107 (0, 0))
 ins : RulesAt (above W1.heap.size X) ai i
 outs : RulesAt (above W1.heap.size X) ao o
 le : W1.heap.size ≤ bo
theorem above_stores {N lo hi bo : Nat} {X : World} {u0 u1 : Value} (hlo : N ≤ lo) (h : bo < lo ∨ hi ≤ bo) : Keeps (between lo hi X) (above N ((X.setCell ⟨bo, 0, none⟩ u0).setCell ⟨bo, 1, none⟩ u1)) := mask_keeps fun k hp hk => by
 simp only [Bool.and_eq_true, decide_eq_true_eq] at hp ⊢
 refine ⟨by omega, ?_⟩
 rw [heap_setCell_other _ _ _ _ (by simp; omega), heap_setCell_other _ _ _ _ (by simp; omega)]
theorem above_set2 {N M b : Nat} {X : World} {u0 u1 : Value} (hb : b < M) (hN : N ≤ M) : Keeps (above M X) (above N ((X.setCell ⟨b, 0, none⟩ u0).setCell ⟨b, 1, none⟩ u1)) := mask_keeps fun k hp hk => by
 simp only [decide_eq_true_eq] at hp ⊢
 refine ⟨by omega, ?_⟩
 rw [heap_setCell_other _ _ _ _ (by simp; omega), heap_setCell_other _ _ _ _ (by simp; omega)]
theorem SgS.done {W1 X : World} {bo n m : Nat} {i o : List Rule} {ai ao : Option Addr} {ci co l1 h1 l2 h2 : Nat} (hB : Below W1.heap.size W1 X) (hA : AtBox W1 X bo) (hI : RowIn W1 X ai i l1 h1) (hO : RowIn W1 X ao o l2 h2) (e1 : bo < l1 ∨ h1 ≤ bo) (e2 : bo < l2 ∨ h2 ≤ bo) :
  SgS W1 ((X.setCell ⟨bo, 0, none⟩ (.slice ai n ci)).setCell ⟨bo, 1, none⟩ (.slice ao m co)) bo i o n m ai ci ao co :=
 ⟨below_set2 hB hA.2, set2_block hA.1, RowIs.keeps hI.1 (above_stores hI.2.1 e1), RowIs.keeps hO.1 (above_stores hO.2.1 e2), hA.2⟩
def signedL (d : DefD) : Bool := decide (d.ins.length ≤ 10) && decide (d.outs.length ≤ 10) && (match goC false d.ins.length 0 (d.ins.map ruleOf) (fun _ => none) with
 | none => false
 | some F => (goC false d.outs.length 0 (d.outs.map ruleOf) F).isSome && !(d.outs.map ruleOf).any Rule.inOnly)
def DEl.val (e : DEl) : Value := .agg #[.string e.d.name, .slice e.io e.d.ins.length e.ic, .slice e.oo e.d.outs.length e.oc, .slice e.no e.d.needs.length e.nc, .int .i64 e.d.regions, .int .i64 e.d.succs, .slice e.ko e.d.traits.length e.kc]
def SignedP (d : DefD) (w : World) (e : Ending) (w' : World) : Prop := Below w.heap.size w w' ∧
 ((signedL d = false ∧ e = .returned (.tuple #[.agg #[.slice none 0 0, .slice none 0 0], .bool false])) ∨
  (signedL d = true ∧ ∃ ai ci ao co, e = .returned (.tuple #[.agg #[.slice ai d.ins.length ci, .slice ao d.outs.length co], .bool true]) ∧ RulesAt (above w.heap.size w') ai (d.ins.map ruleOf) ∧ RulesAt (above w.heap.size w') ao (d.outs.map ruleOf)))
theorem inOnly_sort (r : Rule) : r.inOnly = (r.sortP == 2 || r.sortP == 6) := by cases r <;> rfl
theorem any_first {l : List Rule} {m : Nat} {r : Rule} (h : l[m]? = some r) (hr : r.inOnly = true) : l.any Rule.inOnly = true := List.any_eq_true.2 ⟨r, List.mem_of_getElem? h, hr⟩
theorem any_no {l : List Rule} (h : ∀ (j : Nat) (r : Rule), l[j]? = some r → r.inOnly = false) : l.any Rule.inOnly = false := by
 rw [List.any_eq_false]
 intro r hr
 obtain ⟨j, hj⟩ := List.getElem?_of_mem hr
 rw [h j r hj]
 decide
theorem sigVar {w : World} {b : Nat} {v0 v1 : Value} (h : w.heap[b]? = some (.cells #[v0, v1] 107 (0, 0))) :
  (loadVar 107 ⟨b, 0, none⟩).run Tryz.prog w = .ok (.agg #[v0, v1]) w :=
 run_loadVar_row w b _ _ _ _ _ h Tryz.underlying107 rfl (by kernel_rfl)
set_option maxHeartbeats 16000000 in
set_option maxRecDepth 100000 in
theorem signed_any (x : DEl) (hzi : ∀ s ∈ x.d.ins, s.size ≤ 9223372036854775806) (hzo : ∀ s ∈ x.d.outs, s.size ≤ 9223372036854775806) (hli : x.d.ins.length ≤ 9223372036854775807) (hlo : x.d.outs.length ≤ 9223372036854775807) (w : World) (hd : DefOK w x) (hE : Env w) :
  Calls Tryz.prog 130 #[x.val] w (SignedP x.d w) := by
 obtain ⟨W1, hW1⟩ : ∃ W1, W1 = (w.alloc (.cells #[.string x.d.name, .slice x.io x.d.ins.length x.ic, .slice x.oo x.d.outs.length x.oc, .slice x.no x.d.needs.length x.nc, .int .i64 x.d.regions, .int .i64 x.d.succs, .slice x.ko x.d.traits.length x.kc] 36)).alloc (.cells #[.slice none 0 0, .slice none 0 0] 107) := ⟨_, rfl⟩
 have T0 : Hid (W1.heap[w.heap.size]? = some (.cells #[.string x.d.name, .slice x.io x.d.ins.length x.ic, .slice x.oo x.d.outs.length x.oc, .slice x.no x.d.needs.length x.nc, .int .i64 x.d.regions, .int .i64 x.d.succs, .slice x.ko x.d.traits.length x.kc] 36 (0, 0))) := by show W1.heap[_]? = _; rw [hW1]; exact fst_block _ _ _
 have T1 : Hid (W1.heap[w.heap.size + 1]? = some (.cells #[.slice none 0 0, .slice none 0 0] 107 (0, 0))) := by show W1.heap[_]? = _; rw [hW1]; exact snd_block _ _ _
 have B1 : Hid (Below w.heap.size w W1 ∧ w.heap.size + 1 < W1.heap.size) := by
  show Below _ _ _ ∧ _
  rw [hW1]
  exact ⟨bel_two _ _ _, lt_of_block (snd_block _ _ _)⟩
 have HZI := Lib.hid hzi
 have HZO := Lib.hid hzo
 have HSI := Lib.hid (hd.ins.below B1.out.1)
 have HSO := Lib.hid (hd.outs.below B1.out.1)
 have HE := Lib.hid (hE.below B1.out.1)
 have hlii : (x.d.ins.length : Int) ≤ 9223372036854775807 := by omega
 have hloi : (x.d.outs.length : Int) ≤ 9223372036854775807 := by omega
 clear hzi hzo hd hE hli hlo
 unfold DEl.val
 obtain ⟨c0, c1, c2, c3, c4, c5, c6, cf⟩ := dcells7 T0.out
 obtain ⟨g0, g1, gf⟩ := cells2 T1.out
 by_cases h10 : x.d.ins.length ≤ 10
 rotate_left
 ·have h10i : (x.d.ins.length : Int) > 10 := by omega
  have HN := Lib.hid (show signedL x.d = false by unfold signedL; rw [decide_eq_false h10]; rfl)
  clear h10
  go_enter Tryz.func130, Tryz.ntmps130
  go_upto_region 1 with fail
  rw [← hW1]
  clear hW1
  go_wp2_with fail
  refine bodyPost_ret (v := .tuple #[.agg #[.slice none 0 0, .slice none 0 0], .bool false]) (results_cell_tmp Tryz.results130 rfl rfl (sigVar (set2_block T1.out))) rfl ?_
  exact ⟨below_set2 B1.out.1 (Nat.le_succ _), .inl ⟨HN.out, rfl⟩⟩
 by_cases h11 : x.d.outs.length ≤ 10
 rotate_left
 ·have h10i : ¬ (x.d.ins.length : Int) > 10 := by omega
  have h11i : (x.d.outs.length : Int) > 10 := by omega
  have HN := Lib.hid (show signedL x.d = false by unfold signedL; rw [decide_eq_false h11, Bool.and_false]; rfl)
  clear h10 h11
  go_enter Tryz.func130, Tryz.ntmps130
  go_upto_region 1 with fail
  rw [← hW1]
  clear hW1
  go_wp2_with fail
  refine bodyPost_ret (v := .tuple #[.agg #[.slice none 0 0, .slice none 0 0], .bool false]) (results_cell_tmp Tryz.results130 rfl rfl (sigVar (set2_block T1.out))) rfl ?_
  exact ⟨below_set2 B1.out.1 (Nat.le_succ _), .inl ⟨HN.out, rfl⟩⟩
 have h10i : ¬ (x.d.ins.length : Int) > 10 := by omega
 have h11i : ¬ (x.d.outs.length : Int) > 10 := by omega
 have HI10 := Lib.hid h10
 have HO10 := Lib.hid h11
 clear h10 h11
 go_enter Tryz.func130, Tryz.ntmps130
 go_upto_region 1 with fail
 rw [← hW1]
 clear hW1
 go_upto_region 3 with fail
 clear h10i h11i c0 c1 c2 c3 c4 c5 c6 cf g0 g1 gf
 have HST := Lib.hid (fun (X Y : World) (h : Hid (Below W1.heap.size W1 X)) (hb : Below X.heap.size X Y) => (show Hid (Below W1.heap.size W1 Y) from h.out.trans (hb.mono h.out.size)))
 have HCI := Lib.hid (fun (X : World) (h : Hid (Below W1.heap.size W1 X)) => readRules_any x.io x.d.ins x.ic (by have := HI10.out; omega) HZI.out X (HSI.out.below h.out) (HE.out.below h.out))
 have HCO := Lib.hid (fun (X : World) (h : Hid (Below W1.heap.size W1 X)) => readRules_any x.oo x.d.outs x.oc (by have := HO10.out; omega) HZO.out X (HSO.out.below h.out) (HE.out.below h.out))
 have HC1 := Lib.hid (fun (X : World) (h : Hid (Below W1.heap.size W1 X)) => (show X.cell? ⟨w.heap.size, 1, none⟩ = some (.slice x.io x.d.ins.length x.ic) from (dcells7 ((h.out.block _ (lt_of_block T0.out)).trans T0.out)).2.1))
 have HC2 := Lib.hid (fun (X : World) (h : Hid (Below W1.heap.size W1 X)) => (show X.cell? ⟨w.heap.size, 2, none⟩ = some (.slice x.oo x.d.outs.length x.oc) from (dcells7 ((h.out.block _ (lt_of_block T0.out)).trans T0.out)).2.2.1))
 go_cut [4] (fun p wx => ∃ bo ai ci ao co, p = .pointer (some ⟨bo, 0, none⟩) ∧ Hid (SgS W1 wx bo (x.d.ins.map ruleOf) (x.d.outs.map ruleOf) x.d.ins.length x.d.outs.length ai ci ao co))
 case first =>
  refine wp_region_held_drew (S := fun w' => Hid (Below W1.heap.size W1 w')) (by kernel_rfl) (Below.refl _ _).drew (fun hHeld => ?_)
  generalize W1.drew = V0 at hHeld ⊢
  refine wpAnyH_take (i := 0) (v := .pointer (some ⟨w.heap.size, 1, none⟩)) rfl (by kernel_rfl) (by kernel_rfl) (by kernel_rfl) (fun _ _ _ h => h) (Or.inl ⟨by rfl, ?_⟩) hHeld ?_
  ·intro w hSw
   go_simp
  simp only [Act.put, sA, sC, sD, sE, sF]
  refine wpAnyH_take (i := 1) (v := .slice x.io x.d.ins.length x.ic) rfl (by kernel_rfl) (by kernel_rfl) (by kernel_rfl) (fun _ _ _ h => h) (Or.inl ⟨by rfl, ?_⟩) hHeld ?_
  ·intro w hSw
   have hcc := HC1.out w hSw
   go_simp
  simp only [Act.put, sA, sB, sC, sD, sE, sF]
  refine wpAnyH_take (i := 3) (v := .pointer (some ⟨w.heap.size, 2, none⟩)) rfl (by kernel_rfl) (by kernel_rfl) (by kernel_rfl) (fun _ _ _ h => h) (Or.inl ⟨by rfl, ?_⟩) hHeld ?_
  ·intro w hSw
   go_simp
  simp only [Act.put, sA, sB, sC, sD, sE, sF]
  refine wpAnyH_take (i := 4) (v := .slice x.oo x.d.outs.length x.oc) rfl (by kernel_rfl) (by kernel_rfl) (by kernel_rfl) (fun _ _ _ h => h) (Or.inl ⟨by rfl, ?_⟩) hHeld ?_
  ·intro w hSw
   have hcc := HC2.out w hSw
   go_simp
  simp only [Act.put, sA, sB, sC, sD, sE, sF]
  refine wpAnyH_ready (rs := [2, 7]) (by kernel_rfl) (by simp) ?_
  refine AllReadyH.cons rfl (fun K hK => ?_) (AllReadyH.cons rfl (fun K hK => ?_) AllReadyH.nil)
  ·skip
   go_simp
   go_at_call 153
   with_reducible refine (HCI.out _ hHeld).mono ?_
   rintro e v1 ⟨ai, ci, rfl, hr, hl, hb⟩
   try dsimp only
   have RI := Lib.hid (RowIn.made hr hHeld.out)
   refine hK.out _ _ (HST.out _ _ hHeld hb) (fun h1 => ?_)
   clear hK K hr hl hb hHeld
   try simp only [Act.put, sA, sB, sC, sD, sE, sF]
   refine wpAnyH_ready (rs := [5, 7]) (by kernel_rfl) (by simp) ?_
   refine AllReadyH.cons rfl (fun K hK => ?_) (AllReadyH.cons rfl (fun K hK => ?_) AllReadyH.nil)
   ·skip
    go_simp
    go_at_call 153
    with_reducible refine (HCO.out _ h1).mono ?_
    rintro e v2 ⟨ao, co, rfl, hr, hl, hb⟩
    try dsimp only
    have RO := Lib.hid (RowIn.made hr h1.out)
    have RI := Lib.hid (RI.out.below hb)
    have L1 := Lib.hid (show v1.heap.size ≤ v2.heap.size from hb.size)
    refine hK.out _ _ (HST.out _ _ h1 hb) (fun h2 => ?_)
    clear hK K hr hl hb h1
    try simp only [Act.put, sA, sB, sC, sD, sE, sF]
    refine wpAnyH_take (i := 6) (v := .agg #[.slice ai x.d.ins.length ci, .slice ao x.d.outs.length co]) rfl (by kernel_rfl) (by kernel_rfl) (by kernel_rfl) (fun _ _ _ h => h) (Or.inl ⟨by rfl, ?_⟩) h2 ?_
    ·intro w hSw
     go_simp
    simp only [Act.put, sA, sB, sC, sD, sE, sF]
    refine wpAnyH_ready (rs := [7]) (by kernel_rfl) (by simp) ?_
    refine AllReadyH.cons rfl (fun K hK => ?_) AllReadyH.nil
    go_simp
    refine hK.out _ _ (HST.out _ _ h2 (new_below _ _)) (fun h3 => ?_)
    clear hK K
    try simp only [Act.put, sA, sB, sC, sD, sE, sF]
    have HA := Lib.hid (AtBox.made (W1 := W1) (X := v2) h2.out)
    have RI := Lib.hid (RI.out.below (new_below v2 (.cells #[.slice none 0 0, .slice none 0 0] 107)))
    have RO := Lib.hid (RO.out.below (new_below v2 (.cells #[.slice none 0 0, .slice none 0 0] 107)))
    generalize v2.alloc (.cells #[.slice none 0 0, .slice none 0 0] 107) = X at RI RO h3 HA ⊢
    obtain ⟨b0, b1, bf⟩ := cells2 HA.out.1
    refine wpAnyH_ready (rs := [8]) (by kernel_rfl) (by simp) ?_
    refine AllReadyH.cons rfl (fun K hK => ?_) AllReadyH.nil
    go_simp
    refine hK.out _ _ (show Hid (Below W1.heap.size W1 _) from below_set2 h3.out HA.out.2) (fun hEnd => ?_)
    clear hK K b0 b1 bf
    try simp only [Act.put, sA, sB, sC, sD, sE, sF]
    refine wpAnyH_done (by kernel_rfl) ?_ _
    go_wp2_with fail
    go_meet
    exact ⟨_, ai, ci, ao, co, rfl, SgS.done h3.out HA.out RI.out RO.out (.inr L1.out) (.inr (Nat.le_refl _))⟩
   ·skip
    go_simp
    refine hK.out _ _ (HST.out _ _ h1 (new_below _ _)) (fun h2 => ?_)
    clear hK K
    try simp only [Act.put, sA, sB, sC, sD, sE, sF]
    have HA := Lib.hid (AtBox.made (W1 := W1) (X := v1) h1.out)
    have RI := Lib.hid (RI.out.below (new_below v1 (.cells #[.slice none 0 0, .slice none 0 0] 107)))
    have L1 := Lib.hid (show v1.heap.size < (v1.alloc (.cells #[.slice none 0 0, .slice none 0 0] 107)).heap.size by simp)
    generalize v1.alloc (.cells #[.slice none 0 0, .slice none 0 0] 107) = X at RI L1 h2 HA ⊢
    refine wpAnyH_ready (rs := [5]) (by kernel_rfl) (by simp) ?_
    refine AllReadyH.cons rfl (fun K hK => ?_) AllReadyH.nil
    go_simp
    go_at_call 153
    with_reducible refine (HCO.out _ h2).mono ?_
    rintro e v2 ⟨ao, co, rfl, hr, hl, hb⟩
    try dsimp only
    have RO := Lib.hid (RowIn.made hr h2.out)
    have RI := Lib.hid (RI.out.below hb)
    have HA := Lib.hid (HA.out.below hb)
    have L2 := Lib.hid (show v1.heap.size < X.heap.size from L1.out)
    refine hK.out _ _ (HST.out _ _ h2 hb) (fun h3 => ?_)
    clear hK K hr hl hb h2
    try simp only [Act.put, sA, sB, sC, sD, sE, sF]
    refine wpAnyH_take (i := 6) (v := .agg #[.slice ai x.d.ins.length ci, .slice ao x.d.outs.length co]) rfl (by kernel_rfl) (by kernel_rfl) (by kernel_rfl) (fun _ _ _ h => h) (Or.inl ⟨by rfl, ?_⟩) h3 ?_
    ·intro w hSw
     go_simp
    simp only [Act.put, sA, sB, sC, sD, sE, sF]
    obtain ⟨b0, b1, bf⟩ := cells2 HA.out.1
    refine wpAnyH_ready (rs := [8]) (by kernel_rfl) (by simp) ?_
    refine AllReadyH.cons rfl (fun K hK => ?_) AllReadyH.nil
    go_simp
    refine hK.out _ _ (show Hid (Below W1.heap.size W1 _) from below_set2 h3.out HA.out.2) (fun hEnd => ?_)
    clear hK K b0 b1 bf
    try simp only [Act.put, sA, sB, sC, sD, sE, sF]
    refine wpAnyH_done (by kernel_rfl) ?_ _
    go_wp2_with fail
    go_meet
    exact ⟨_, ai, ci, ao, co, rfl, SgS.done h3.out HA.out RI.out RO.out (.inr (Nat.le_refl _)) (.inl L2.out)⟩
  ·skip
   have L0 := Lib.hid (show V0.heap.size < (V0.alloc (.cells #[.slice none 0 0, .slice none 0 0] 107)).heap.size by simp)
   go_simp
   refine hK.out _ _ (HST.out _ _ hHeld (new_below _ _)) (fun h1 => ?_)
   clear hK K
   try simp only [Act.put, sA, sB, sC, sD, sE, sF]
   have HA := Lib.hid (AtBox.made (W1 := W1) (X := V0) hHeld.out)
   generalize V0.alloc (.cells #[.slice none 0 0, .slice none 0 0] 107) = X at L0 h1 HA ⊢
   refine wpAnyH_ready (rs := [2]) (by kernel_rfl) (by simp) ?_
   refine AllReadyH.cons rfl (fun K hK => ?_) AllReadyH.nil
   go_simp
   go_at_call 153
   with_reducible refine (HCI.out _ h1).mono ?_
   rintro e v1 ⟨ai, ci, rfl, hr, hl, hb⟩
   try dsimp only
   have RI := Lib.hid (RowIn.made hr h1.out)
   have HA := Lib.hid (HA.out.below hb)
   have L1 := Lib.hid (show X.heap.size ≤ v1.heap.size from hb.size)
   refine hK.out _ _ (HST.out _ _ h1 hb) (fun h2 => ?_)
   clear hK K hr hl hb h1
   try simp only [Act.put, sA, sB, sC, sD, sE, sF]
   refine wpAnyH_ready (rs := [5]) (by kernel_rfl) (by simp) ?_
   refine AllReadyH.cons rfl (fun K hK => ?_) AllReadyH.nil
   go_simp
   go_at_call 153
   with_reducible refine (HCO.out _ h2).mono ?_
   rintro e v2 ⟨ao, co, rfl, hr, hl, hb⟩
   try dsimp only
   have RO := Lib.hid (RowIn.made hr h2.out)
   have RI := Lib.hid (RI.out.below hb)
   have HA := Lib.hid (HA.out.below hb)
   refine hK.out _ _ (HST.out _ _ h2 hb) (fun h3 => ?_)
   clear hK K hr hl hb h2
   try simp only [Act.put, sA, sB, sC, sD, sE, sF]
   refine wpAnyH_take (i := 6) (v := .agg #[.slice ai x.d.ins.length ci, .slice ao x.d.outs.length co]) rfl (by kernel_rfl) (by kernel_rfl) (by kernel_rfl) (fun _ _ _ h => h) (Or.inl ⟨by rfl, ?_⟩) h3 ?_
   ·intro w hSw
    go_simp
   simp only [Act.put, sA, sB, sC, sD, sE, sF]
   obtain ⟨b0, b1, bf⟩ := cells2 HA.out.1
   refine wpAnyH_ready (rs := [8]) (by kernel_rfl) (by simp) ?_
   refine AllReadyH.cons rfl (fun K hK => ?_) AllReadyH.nil
   go_simp
   refine hK.out _ _ (show Hid (Below W1.heap.size W1 _) from below_set2 h3.out HA.out.2) (fun hEnd => ?_)
   clear hK K b0 b1 bf
   try simp only [Act.put, sA, sB, sC, sD, sE, sF]
   refine wpAnyH_done (by kernel_rfl) ?_ _
   go_wp2_with fail
   go_meet
   exact ⟨_, ai, ci, ao, co, rfl, SgS.done h3.out HA.out RI.out RO.out (.inl L0.out) (.inl (Nat.lt_of_lt_of_le L0.out L1.out))⟩
 case rest =>
 obtain ⟨bo, ai, ci, ao, co, rfl, HS⟩ := hcut
 clear HST HCI HCO HC1 HC2 HZI HZO
 have hlenI : (x.d.ins.map ruleOf).length = x.d.ins.length := List.length_map _
 have hlenO : (x.d.outs.map ruleOf).length = x.d.outs.length := List.length_map _
 have HSG := Lib.hid (show signedL x.d = (match goC false (x.d.ins.map ruleOf).length 0 (x.d.ins.map ruleOf) (fun _ => none) with
  | none => false
  | some F => (goC false (x.d.outs.map ruleOf).length 0 (x.d.outs.map ruleOf) F).isSome && !(x.d.outs.map ruleOf).any Rule.inOnly) by
  unfold signedL
  rw [decide_eq_true HI10.out, decide_eq_true HO10.out, hlenI, hlenO]
  rfl)
 have hcI := fun (mb : Nat) (X : World) (h1 : RulesAt X ai (x.d.ins.map ruleOf)) (h2 : BMap X mb 0 (fun _ => none)) => areRight_any ai (x.d.ins.map ruleOf) ci (by rw [hlenI]; have := HI10.out; omega) mb 0 (fun _ => none) (by omega) X h1 h2
 have hcO := fun (mb : Nat) (c : Nat) (F : BndC) (hc : c ≤ 1000000) (X : World) (h1 : RulesAt X ao (x.d.outs.map ruleOf)) (h2 : BMap X mb c F) => areRight_any ao (x.d.outs.map ruleOf) co (by rw [hlenO]; have := HO10.out; omega) mb c F hc X h1 h2
 rw [hlenI] at hcI
 rw [hlenO] at hcO
 have HCI := Lib.hid hcI
 have HCO := Lib.hid hcO
 have HLI := Lib.hid hlenI
 have HLO := Lib.hid hlenO
 clear hcI hcO hlenI hlenO
 have HBI := Lib.hid (show x.d.ins.length ≤ 1000000 by have := HI10.out; omega)
 generalize hri : x.d.ins.map ruleOf = ri at HS HSG HCI HLI
 generalize hro : x.d.outs.map ruleOf = ro at HS HSG HCO HLO
 have HRE := Lib.hid (And.intro hri hro)
 clear hri hro
 obtain ⟨X1, hX1⟩ : ∃ X1, X1 = wc.alloc (.map #[] 0) := ⟨_, rfl⟩
 have HM1 : Hid (BMap X1 wc.heap.size 0 (fun _ => none)) := by
  show BMap _ _ _ _
  rw [hX1]
  exact MapI.made _ _ _ _
 have HB1 : Hid (Below wc.heap.size wc X1) := by
  show Below _ _ _
  rw [hX1]
  exact new_below _ _
 have hmm := @run_makeMap Tryz.prog
 go_upto_region 5 with fail
 rw [← hX1]
 clear hX1 hmm
 have HW := Lib.hid (show w.heap.size + 1 < W1.heap.size from B1.out.2)
 have HMB := Lib.hid (show W1.heap.size ≤ wc.heap.size from HS.out.below.size)
 have HBO := Lib.hid (lt_of_block HS.out.box)
 have HBX := Lib.hid (B1.out.1.trans ((HS.out.below.trans (HB1.out.mono HS.out.below.size)).mono B1.out.1.size))
 have HTX := Lib.hid (((HB1.out.block _ (by have := HW.out; have := HMB.out; omega)).trans ((HS.out.below.block _ (lt_of_block T1.out)).trans T1.out)))
 have HXB := Lib.hid ((HB1.out.block _ HBO.out).trans HS.out.box)
 have HRI := Lib.hid (RowIs.keeps HS.out.ins (above_below HB1.out))
 have HRO := Lib.hid (RowIs.keeps HS.out.outs (above_below HB1.out))
 have HLE := Lib.hid HS.out.le
 clear HS HB1
 generalize wc.heap.size = mb at HM1 HMB HBO ⊢
 obtain ⟨d0, d1, df⟩ := cells2 HXB.out
 obtain ⟨g0, g1, gf⟩ := cells2 HTX.out
 rcases hG : goC false ri.length 0 ri (fun _ => none) with _ | F
 ·have HN := Lib.hid (show signedL x.d = false by rw [HSG.out, hG])
  have HG := Lib.hid hG
  clear hG
  go_wp2_with fail
  refine (HCI.out mb X1 (RowIs.keeps HRI.out above_to) HM1.out).mono ?_
  rintro e w2 ⟨hg, rfl, -⟩
  have HB2 := Lib.hid (below_of_grown (B := w.heap.size) hg (by have := HBX.out.size; omega) (by have := HMB.out; have := HW.out; omega))
  have HT2 := Lib.hid ((hg.block _ (lt_of_block HTX.out) (by have := HMB.out; have := HW.out; simp; omega)).trans HTX.out)
  rw [HG.out]
  clear hg d0 d1 df g0 g1 gf
  obtain ⟨g0, g1, gf⟩ := cells2 HT2.out
  go_wp2_with fail
  refine bodyPost_ret (v := .tuple #[.agg #[.slice none 0 0, .slice none 0 0], .bool false]) (results_cell_tmp Tryz.results130 rfl rfl (sigVar (set2_block HT2.out))) rfl ?_
  exact ⟨below_set2 (HBX.out.trans HB2.out) (Nat.le_succ _), .inl ⟨HN.out, rfl⟩⟩
 have HG := Lib.hid hG
 have HSG2 := Lib.hid (show signedL x.d = ((goC false ro.length 0 ro F).isSome && !ro.any Rule.inOnly) by rw [HSG.out, hG])
 clear hG HSG
 go_wp2_with fail
 refine (HCI.out mb X1 (RowIs.keeps HRI.out above_to) HM1.out).mono ?_
 rintro e w2 ⟨hg, rfl, hmap⟩
 have HM2 := Lib.hid (hmap F HG.out)
 obtain ⟨ob, ho1, ho2⟩ := MapI.obj HM1.out
 have HB2 := Lib.hid (below_of_grown (B := w.heap.size) hg (by have := HBX.out.size; omega) (by have := HMB.out; have := HW.out; omega))
 have HT2 := Lib.hid ((hg.block _ (lt_of_block HTX.out) (by have := HMB.out; have := HW.out; simp; omega)).trans HTX.out)
 have HXB2 := Lib.hid ((hg.block _ (lt_of_block HXB.out) (by have := HBO.out; simp; omega)).trans HXB.out)
 have HKK := Lib.hid (grown_keeps hg ho1 ho2)
 rw [HG.out]
 clear hg hmap ho1 ho2 d0 d1 df g0 g1 gf
 have HRO2 := Lib.hid (RowIs.keeps (RowIs.keeps HRO.out above_to) HKK.out)
 have HROA := Lib.hid (RowIs.keeps HRO.out (above_mono HKK.out))
 have HRIA := Lib.hid (RowIs.keeps HRI.out (above_mono HKK.out))
 have HS2 := Lib.hid (show w.heap.size ≤ w2.heap.size ∧ mb < w2.heap.size ∧ bo < w2.heap.size from ⟨Nat.le_trans HBX.out.size HB2.out.size, HM2.out.lt, lt_of_block HXB2.out⟩)
 have HBX2 := Lib.hid (HBX.out.trans HB2.out)
 have HNO := Lib.hid (show ro.length ≤ 10 by rw [HLO.out]; exact HO10.out)
 clear HM1 HBX HB2 HTX HXB HRI HRO HKK
 obtain ⟨d0, d1, df⟩ := cells2 HXB2.out
 obtain ⟨g0, g1, gf⟩ := cells2 HT2.out
 go_wp2_with fail
 refine (HCO.out mb (0 + ri.length) F (by have := HLI.out; have := HBI.out; omega) w2 HRO2.out HM2.out).mono ?_
 rintro e w3 ⟨hg, rfl, -⟩
 obtain ⟨ob, ho1, ho2⟩ := MapI.obj HM2.out
 have HB3 := Lib.hid (HBX2.out.trans (below_of_grown (B := w.heap.size) hg HS2.out.1 (by have := HMB.out; have := HW.out; omega)))
 have HT3 := Lib.hid ((hg.block _ (lt_of_block HT2.out) (by have := HMB.out; have := HW.out; simp; omega)).trans HT2.out)
 have HXB3 := Lib.hid ((hg.block _ (lt_of_block HXB2.out) (by have := HBO.out; simp; omega)).trans HXB2.out)
 have HKK := Lib.hid (grown_keeps hg ho1 ho2)
 have HRO3 := Lib.hid (RowIs.keeps HROA.out (above_mono HKK.out))
 have HRI3 := Lib.hid (RowIs.keeps HRIA.out (above_mono HKK.out))
 clear hg ho1 ho2 d0 d1 df g0 g1 gf HBX2 HT2 HXB2 HRO2 HROA HRIA HKK HM2 HS2
 cases hs : (goC false ro.length 0 ro F).isSome
 ·have HN := Lib.hid (show signedL x.d = false by rw [HSG2.out, hs]; rfl)
  clear hs HSG2
  obtain ⟨g0, g1, gf⟩ := cells2 HT3.out
  go_wp2_with fail
  refine bodyPost_ret (v := .tuple #[.agg #[.slice none 0 0, .slice none 0 0], .bool false]) (results_cell_tmp Tryz.results130 rfl rfl (sigVar (set2_block HT3.out))) rfl ?_
  exact ⟨below_set2 HB3.out (Nat.le_succ _), .inl ⟨HN.out, rfl⟩⟩
 have HSG3 := Lib.hid (show signedL x.d = !ro.any Rule.inOnly by rw [HSG2.out, hs]; rfl)
 clear hs HSG2
 obtain ⟨d0, d1, df⟩ := cells2 HXB3.out
 have hkk : x.d.outs.length = ro.length := HLO.out.symm
 have hnoi : (ro.length : Int) ≤ 10 := by have := HNO.out; omega
 rw [hkk] at d1
 clear hkk
 go_wp2_with fail
 go_loopw [43] (fun iv wr => ∃ m : Nat, m ≤ ro.length ∧ iv = .int .i64 m ∧ Hid (Below w3.heap.size w3 wr ∧ ∀ (j : Nat) (r : Rule), j < m → ro[j]? = some r → r.inOnly = false)) (fun iv _ => ro.length - (intOf iv).toNat)
 case atStart => exact ⟨0, Nat.zero_le _, rfl, Below.refl _ _, fun j r h => absurd h (Nat.not_lt_zero _)⟩
 case round =>
  obtain ⟨m, hmm, rfl, HL⟩ := hrel
  have HT4 := Lib.hid ((HL.out.1.block _ (lt_of_block HT3.out)).trans HT3.out)
  have HXB4 := Lib.hid ((HL.out.1.block _ (lt_of_block HXB3.out)).trans HXB3.out)
  have HB4 := Lib.hid (HB3.out.trans (HL.out.1.mono HB3.out.size))
  by_cases hlt : m < ro.length
  rotate_left
  ·have hge : ¬ (m : Int) < (ro.length : Int) := by omega
   have HY := Lib.hid (show signedL x.d = true by
    rw [HSG3.out, any_no (fun j r hj => HL.out.2 j r (by have := (List.getElem?_eq_some_iff.1 hj).1; omega) hj)]
    rfl)
   have HRO4 := Lib.hid (RowIs.keeps HRO3.out (above_below HL.out.1))
   have HRI4 := Lib.hid (RowIs.keeps HRI3.out (above_below HL.out.1))
   clear hlt hmm d0 d1 df
   obtain ⟨d0, d1, df⟩ := cells2 HXB4.out
   obtain ⟨g0, g1, gf⟩ := cells2 HT4.out
   go_wp2_with fail
   refine bodyPost_ret (v := .tuple #[.agg #[.slice ai x.d.ins.length ci, .slice ao x.d.outs.length co], .bool true]) (results_cell_tmp Tryz.results130 rfl rfl (sigVar (set2_block HT4.out))) rfl ?_
   exact ⟨below_set2 HB4.out (Nat.le_succ _), .inr ⟨HY.out, ai, ci, ao, co, rfl, by rw [HRE.out.1]; exact RowIs.keeps HRI4.out (above_set2 HW.out (by have := HW.out; omega)), by rw [HRE.out.2]; exact RowIs.keeps HRO4.out (above_set2 HW.out (by have := HW.out; omega))⟩⟩
  have hz := List.getElem?_eq_getElem hlt
  obtain ⟨r, hr0⟩ : ∃ r, r = ro[m]'hlt := ⟨_, rfl⟩
  rw [← hr0] at hz
  clear hr0
  obtain ⟨bk, o, rfl, hc⟩ := RowIs.at rule_len (RowIs.keeps (RowIs.keeps HRO3.out above_to) (Keeps.of_below HL.out.1)) hz
  have HIO := Lib.hid (inOnly_sort r)
  have q0 := hc 0 _ rfl
  have q1 := hc 1 _ rfl
  have q2 := hc 2 _ rfl
  have q3 := hc 3 _ rfl
  rw [Nat.add_zero] at q0
  clear hc
  have HZ := Lib.hid hz
  have HLT := Lib.hid hlt
  have hlti : (m : Int) < (ro.length : Int) := by omega
  clear hz hlt hmm d0 d1 df
  generalize r.sortP = sp at q0 HIO
  generalize r.clsP = sc at q1
  generalize (r.v.toNat : Int) = sv at q2
  generalize r.textP = st at q3
  have HNB := Lib.hid (new_below wr (.cells #[.int .i64 sp, .int .i64 sc, .int .i32 sv, .string st] 125))
  have HT := Lib.hid (heap_alloc_new wr (.cells #[.int .i64 sp, .int .i64 sc, .int .i32 sv, .string st] 125))
  go_upto_region 10 with fail
  clear q0 q1 q2 q3
  generalize wr.alloc (.cells #[.int .i64 sp, .int .i64 sc, .int .i32 sv, .string st] 125) = W5 at HNB HT ⊢
  generalize wr.heap.size = D at HT ⊢
  obtain ⟨c0, c1, c2, c3, cf⟩ := dcells4 HT.out
  have HT5 := Lib.hid ((HNB.out.block _ (lt_of_block HT4.out)).trans HT4.out)
  have HB5 := Lib.hid (HB4.out.trans (HNB.out.mono HB4.out.size))
  cases k2 : (sp == 2)
  ·cases k6 : (sp == 6)
   ·have HNX := Lib.hid (show r.inOnly = false by rw [HIO.out, k2, k6]; rfl)
    go_wp2_with fail
    go_roundw
    case rel => exact ⟨m + 1, HLT.out, by go_num, HL.out.1.trans (HNB.out.mono HL.out.1.size), fun j y hj hy => by
     rcases Nat.lt_or_ge j m with h | h
     ·exact HL.out.2 j y h hy
     ·obtain rfl : j = m := by omega
      rw [HZ.out] at hy
      cases hy
      exact HNX.out⟩
    case measure => have := HLT.out; simp only [intOf]; omega
   ·have HN := Lib.hid (show signedL x.d = false by rw [HSG3.out, any_first HZ.out (by rw [HIO.out, k2, k6]; rfl)]; rfl)
    obtain ⟨g0, g1, gf⟩ := cells2 HT5.out
    go_wp2_with fail
    refine bodyPost_ret (v := .tuple #[.agg #[.slice none 0 0, .slice none 0 0], .bool false]) (results_cell_tmp Tryz.results130 rfl rfl (sigVar (set2_block HT5.out))) rfl ?_
    exact ⟨below_set2 HB5.out (Nat.le_succ _), .inl ⟨HN.out, rfl⟩⟩
  ·have HN := Lib.hid (show signedL x.d = false by rw [HSG3.out, any_first HZ.out (by rw [HIO.out, k2]; rfl)]; rfl)
   obtain ⟨g0, g1, gf⟩ := cells2 HT5.out
   go_wp2_with fail
   refine bodyPost_ret (v := .tuple #[.agg #[.slice none 0 0, .slice none 0 0], .bool false]) (results_cell_tmp Tryz.results130 rfl rfl (sigVar (set2_block HT5.out))) rfl ?_
   exact ⟨below_set2 HB5.out (Nat.le_succ _), .inl ⟨HN.out, rfl⟩⟩
end Go.Proofs.YtgimdkgjfenafaaGreatDoor
