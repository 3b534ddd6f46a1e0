/-
  Texts of mine in one file: KAtRD.
-/
import Derived.Test.YtiofnjnaleglgaaGreatDoorQC
import Derived.Test.YtiofnjnaleglgaaGreatDoorHAtRR
import Derived.Deep.RegionHeld3
import Derived.Deep.Cut
import Derived.Deep.CutBlock
import Derived.Deep.DeepCutAuto
import Derived.BigRegion
/-
  The walk of the reference's 'Read'.
-/
namespace Go.Proofs.YtiofnjnaleglgaaGreatDoor
open Go.RowKit

/-- What the reference's 'Read' answers. -/
def RReadPost (nm s : ByteArray) (w : World) (e : Ending) (w' : World) : Prop := Below w.heap.size w w' ∧
  ((∃ (a : At) (v : Value) (ai : Option Addr) (ci : Nat) (ao : Option Addr) (ct : Nat), e = .returned (.tuple #[v, .bool true]) ∧ AttAt w' a v ai ci ao ct ∧ a.name = nm ∧ rightB a = true ∧ valueL a = s.data.toList ∧ (∀ x, ai = some x → w.heap.size ≤ x.block) ∧ ∀ x, ao = some x → w.heap.size ≤ x.block) ∨
   ((∀ b : At, rightB b = true → b.Wf → b.name = nm → valueL b ≠ s.data.toList) ∧ ∃ (a : At) (ai : Option Addr) (ci : Nat) (ao : Option Addr) (ct : Nat), e = .returned (.tuple #[.agg #[.string a.name, .int .i64 a.kind, .int .i64 a.num, .string a.text, .slice ai a.ints.length ci, .slice ao a.texts.length ct], .bool false])))
section
variable {w : World} {b : Nat} {T : TypeId} {v0 v1 v2 v3 v4 v5 : Value}
theorem set_1 (h : w.heap[b]? = some (.cells #[v0, v1, v2, v3, v4, v5] T (0, 0))) (u : Value) : (w.setCell ⟨b, 1, none⟩ u).heap[b]? = some (.cells #[v0, u, v2, v3, v4, v5] T (0, 0)) := by rw [heap_setCell_same _ b 1 _ T u h]; rfl
theorem set_2 (h : w.heap[b]? = some (.cells #[v0, v1, v2, v3, v4, v5] T (0, 0))) (u : Value) : (w.setCell ⟨b, 2, none⟩ u).heap[b]? = some (.cells #[v0, v1, u, v3, v4, v5] T (0, 0)) := by rw [heap_setCell_same _ b 2 _ T u h]; rfl
theorem set_3 (h : w.heap[b]? = some (.cells #[v0, v1, v2, v3, v4, v5] T (0, 0))) (u : Value) : (w.setCell ⟨b, 3, none⟩ u).heap[b]? = some (.cells #[v0, v1, v2, u, v4, v5] T (0, 0)) := by rw [heap_setCell_same _ b 3 _ T u h]; rfl
theorem set_4 (h : w.heap[b]? = some (.cells #[v0, v1, v2, v3, v4, v5] T (0, 0))) (u : Value) : (w.setCell ⟨b, 4, none⟩ u).heap[b]? = some (.cells #[v0, v1, v2, v3, u, v5] T (0, 0)) := by rw [heap_setCell_same _ b 4 _ T u h]; rfl
theorem set_5 (h : w.heap[b]? = some (.cells #[v0, v1, v2, v3, v4, v5] T (0, 0))) (u : Value) : (w.setCell ⟨b, 5, none⟩ u).heap[b]? = some (.cells #[v0, v1, v2, v3, v4, u] T (0, 0)) := by rw [heap_setCell_same _ b 5 _ T u h]; rfl
theorem set_off {c k : Nat} {o : Option Obj} (h : w.heap[c]? = o) (hb : b ≠ c) (u : Value) : (w.setCell ⟨b, k, none⟩ u).heap[c]? = o := (heap_setCell_other _ _ _ _ (by dsimp only; omega)).trans h
end
/-- The attribute in its variable, and the variable of the result. -/
structure RdW (w : World) (P0 : Nat) (nm s : ByteArray) (a : At) (ok : Bool) (ai : Option Addr) (ci : Nat) (ao : Option Addr) (ct : Nat) (W : World) : Prop where
  t4 : W.heap[P0]? = some (.cells #[.string ⟨#[]⟩, .int .i64 0, .int .i64 0, .string ⟨#[]⟩, .slice none 0 0, .slice none 0 0] 29 (0, 0))
  t6 : W.heap[P0 + 1]? = some (.cells #[.string a.name, .int .i64 a.kind, .int .i64 a.num, .string a.text, .slice ai a.ints.length ci, .slice ao a.texts.length ct] 29 (0, 0))
  below : Below P0 w W
  ints : IntsAt W ai a.ints
  texts : StrsAt W ao a.texts
  icap : a.ints.length ≤ ci
  tcap : a.texts.length ≤ ct
  ni : ∀ x, ai = some x → P0 + 2 ≤ x.block
  nt : ∀ x, ao = some x → P0 + 2 ≤ x.block
  rd : RdOK nm s a ok
structure RdS (w : World) (P0 : Nat) (a : At) (ai ao : Option Addr) (W : World) : Prop where
  below : Below P0 w W
  ints : IntsAt W ai a.ints
  texts : StrsAt W ao a.texts
  t4 : ∃ u0 u1 u2 u3 u4 u5, W.heap[P0]? = some (.cells #[u0, u1, u2, u3, u4, u5] 29 (0, 0))
  big : P0 + 1 < W.heap.size
theorem RdS.step {w X Y : World} {P0 : Nat} {a : At} {ai : Option Addr} {ci : Nat} {ao : Option Addr} {ct : Nat} (h : X.cell? ⟨P0 + 1, 0, none⟩ = some (.string a.name) ∧ X.cell? ⟨P0 + 1, 1, none⟩ = some (.int .i64 a.kind) ∧ X.cell? ⟨P0 + 1, 2, none⟩ = some (.int .i64 a.num) ∧ X.cell? ⟨P0 + 1, 3, none⟩ = some (.string a.text) ∧ X.cell? ⟨P0 + 1, 4, none⟩ = some (.slice ai a.ints.length ci) ∧ X.cell? ⟨P0 + 1, 5, none⟩ = some (.slice ao a.texts.length ct) ∧ Hid (RdS w P0 a ai ao X)) (hb : Below X.heap.size X Y) : Y.cell? ⟨P0 + 1, 0, none⟩ = some (.string a.name) ∧ Y.cell? ⟨P0 + 1, 1, none⟩ = some (.int .i64 a.kind) ∧ Y.cell? ⟨P0 + 1, 2, none⟩ = some (.int .i64 a.num) ∧ Y.cell? ⟨P0 + 1, 3, none⟩ = some (.string a.text) ∧ Y.cell? ⟨P0 + 1, 4, none⟩ = some (.slice ai a.ints.length ci) ∧ Y.cell? ⟨P0 + 1, 5, none⟩ = some (.slice ao a.texts.length ct) ∧ Hid (RdS w P0 a ai ao Y) := by
  obtain ⟨h0, h1, h2, h3, h4, h5, hB⟩ := h
  have hc : ∀ {x : Addr} {v : Value}, X.cell? x = some v → Y.cell? x = some v := fun hx => (hb.cell (block_lt_of_cell hx)).trans hx
  have hbig := hB.out.big
  have hsz := hb.size
  refine ⟨hc h0, hc h1, hc h2, hc h3, hc h4, hc h5, hB.out.below.trans (hb.mono (by omega)), hB.out.ints.below hb, hB.out.texts.below hb, ?_, by omega⟩
  obtain ⟨u0, u1, u2, u3, u4, u5, hu⟩ := hB.out.t4
  exact ⟨u0, u1, u2, u3, u4, u5, (hb.block _ (lt_of_block hu)).trans hu⟩
theorem RdS.stored {w X : World} {P0 : Nat} {a : At} {ai : Option Addr} {ci : Nat} {ao : Option Addr} {ct : Nat} (hi : ∀ x, ai = some x → P0 + 2 ≤ x.block) (ht : ∀ x, ao = some x → P0 + 2 ≤ x.block) (h : X.cell? ⟨P0 + 1, 0, none⟩ = some (.string a.name) ∧ X.cell? ⟨P0 + 1, 1, none⟩ = some (.int .i64 a.kind) ∧ X.cell? ⟨P0 + 1, 2, none⟩ = some (.int .i64 a.num) ∧ X.cell? ⟨P0 + 1, 3, none⟩ = some (.string a.text) ∧ X.cell? ⟨P0 + 1, 4, none⟩ = some (.slice ai a.ints.length ci) ∧ X.cell? ⟨P0 + 1, 5, none⟩ = some (.slice ao a.texts.length ct) ∧ Hid (RdS w P0 a ai ao X)) : ((((((X.setCell ⟨P0, 0, none⟩ (.string a.name)).setCell ⟨P0, 1, none⟩ (.int .i64 a.kind)).setCell ⟨P0, 2, none⟩ (.int .i64 a.num)).setCell ⟨P0, 3, none⟩ (.string a.text)).setCell ⟨P0, 4, none⟩ (.slice ai a.ints.length ci)).setCell ⟨P0, 5, none⟩ (.slice ao a.texts.length ct)).cell? ⟨P0 + 1, 0, none⟩ = some (.string a.name) ∧ ((((((X.setCell ⟨P0, 0, none⟩ (.string a.name)).setCell ⟨P0, 1, none⟩ (.int .i64 a.kind)).setCell ⟨P0, 2, none⟩ (.int .i64 a.num)).setCell ⟨P0, 3, none⟩ (.string a.text)).setCell ⟨P0, 4, none⟩ (.slice ai a.ints.length ci)).setCell ⟨P0, 5, none⟩ (.slice ao a.texts.length ct)).cell? ⟨P0 + 1, 1, none⟩ = some (.int .i64 a.kind) ∧ ((((((X.setCell ⟨P0, 0, none⟩ (.string a.name)).setCell ⟨P0, 1, none⟩ (.int .i64 a.kind)).setCell ⟨P0, 2, none⟩ (.int .i64 a.num)).setCell ⟨P0, 3, none⟩ (.string a.text)).setCell ⟨P0, 4, none⟩ (.slice ai a.ints.length ci)).setCell ⟨P0, 5, none⟩ (.slice ao a.texts.length ct)).cell? ⟨P0 + 1, 2, none⟩ = some (.int .i64 a.num) ∧ ((((((X.setCell ⟨P0, 0, none⟩ (.string a.name)).setCell ⟨P0, 1, none⟩ (.int .i64 a.kind)).setCell ⟨P0, 2, none⟩ (.int .i64 a.num)).setCell ⟨P0, 3, none⟩ (.string a.text)).setCell ⟨P0, 4, none⟩ (.slice ai a.ints.length ci)).setCell ⟨P0, 5, none⟩ (.slice ao a.texts.length ct)).cell? ⟨P0 + 1, 3, none⟩ = some (.string a.text) ∧ ((((((X.setCell ⟨P0, 0, none⟩ (.string a.name)).setCell ⟨P0, 1, none⟩ (.int .i64 a.kind)).setCell ⟨P0, 2, none⟩ (.int .i64 a.num)).setCell ⟨P0, 3, none⟩ (.string a.text)).setCell ⟨P0, 4, none⟩ (.slice ai a.ints.length ci)).setCell ⟨P0, 5, none⟩ (.slice ao a.texts.length ct)).cell? ⟨P0 + 1, 4, none⟩ = some (.slice ai a.ints.length ci) ∧ ((((((X.setCell ⟨P0, 0, none⟩ (.string a.name)).setCell ⟨P0, 1, none⟩ (.int .i64 a.kind)).setCell ⟨P0, 2, none⟩ (.int .i64 a.num)).setCell ⟨P0, 3, none⟩ (.string a.text)).setCell ⟨P0, 4, none⟩ (.slice ai a.ints.length ci)).setCell ⟨P0, 5, none⟩ (.slice ao a.texts.length ct)).cell? ⟨P0 + 1, 5, none⟩ = some (.slice ao a.texts.length ct) ∧ Hid (RdS w P0 a ai ao ((((((X.setCell ⟨P0, 0, none⟩ (.string a.name)).setCell ⟨P0, 1, none⟩ (.int .i64 a.kind)).setCell ⟨P0, 2, none⟩ (.int .i64 a.num)).setCell ⟨P0, 3, none⟩ (.string a.text)).setCell ⟨P0, 4, none⟩ (.slice ai a.ints.length ci)).setCell ⟨P0, 5, none⟩ (.slice ao a.texts.length ct))) := by
  obtain ⟨h0, h1, h2, h3, h4, h5, hB⟩ := h
  obtain ⟨u0, u1, u2, u3, u4, u5, hu⟩ := hB.out.t4
  have hk : ∀ k, P0 + 1 ≤ k → _ := fun k hk => set6_other (w := X) (b := P0) (k := k) (u0 := .string a.name) (u1 := .int .i64 a.kind) (u2 := .int .i64 a.num) (u3 := .string a.text) (u4 := .slice ai a.ints.length ci) (u5 := .slice ao a.texts.length ct) (by omega)
  have hc : ∀ {j : Nat} {v : Value}, X.cell? ⟨P0 + 1, j, none⟩ = some v → ((((((X.setCell ⟨P0, 0, none⟩ (.string a.name)).setCell ⟨P0, 1, none⟩ (.int .i64 a.kind)).setCell ⟨P0, 2, none⟩ (.int .i64 a.num)).setCell ⟨P0, 3, none⟩ (.string a.text)).setCell ⟨P0, 4, none⟩ (.slice ai a.ints.length ci)).setCell ⟨P0, 5, none⟩ (.slice ao a.texts.length ct)).cell? ⟨P0 + 1, j, none⟩ = some v := fun hx => (World.cell?_of_block (hk _ (Nat.le_refl _))).trans hx
  refine ⟨hc h0, hc h1, hc h2, hc h3, hc h4, hc h5, below_set6 hB.out.below (Nat.le_refl _), hB.out.ints.moved hi (fun k h => hk k (by omega)), hB.out.texts.moved ht (fun k h => hk k (by omega)), ⟨_, _, _, _, _, _, set6_block hu⟩, ?_⟩
  have := hB.out.big
  simpa [setCell_size] using this
theorem nums_len {s : ByteArray} (hs : s.size ≤ 1048576) {zs : List Int} (h : numsR s.data.toList = some zs) : zs.length ≤ 9223372036854775807 := by
  have h1 := (numsR_sound h).1
  have h2 : zs.length ≤ (Lib.join (zs.map Lib.itoa) gap).length := by
    clear h h1
    induction zs with
    | nil => exact Nat.le_refl _
    | cons z r ih =>
      have hz : 0 < (Lib.itoa z).length := by
        by_cases h : z < 0
        · rw [itoa_neg h]; exact Nat.zero_lt_succ _
        · rw [itoa_pos h, Lib.decDigits_length]; exact Lib.nDigits_pos _
      cases r with
      | nil => show 1 ≤ (Lib.join [Lib.itoa z] gap).length; rw [Lib.join_one]; exact hz
      | cons y r =>
        show _ ≤ (Lib.join (Lib.itoa z :: Lib.itoa y :: r.map Lib.itoa) gap).length
        rw [join_more, List.length_append, List.length_append]
        rw [List.map_cons] at ih
        rw [List.length_cons]
        omega
  have h3 := congrArg List.length h1
  rw [← size_eq, intsL, List.length_cons, List.length_append] at h3
  omega
theorem types_len {s : ByteArray} (hs : s.size ≤ 1048576) {ps : List ByteArray} (h : splitR s.data.toList = some (ps.map (·.data.toList))) : ps.length ≤ 9223372036854775807 := by
  have h1 := splitR_sound h
  have h2 : ps.length ≤ (Lib.join (ps.map (·.data.toList)) gap).length + 1 := by
    clear h h1
    induction ps with
    | nil => exact Nat.zero_le _
    | cons z r ih =>
      cases r with
      | nil => exact Nat.le_add_left 1 _
      | cons y r =>
        show _ ≤ (Lib.join (z.data.toList :: y.data.toList :: r.map (·.data.toList)) gap).length + 1
        rw [join_more, List.length_append, List.length_append]
        rw [List.map_cons] at ih
        have hg : gap.length = 2 := rfl
        rw [List.length_cons]
        omega
  have h3 := congrArg List.length h1
  rw [← size_eq, joinR, List.length_cons, List.length_append] at h3
  omega
theorem none_new {P : Nat} : ∀ x : Addr, (none : Option Addr) = some x → P ≤ x.block := fun _ e => (by cases e)

set_option maxHeartbeats 8000000 in
set_option maxRecDepth 100000 in
theorem RRead_any (nm s : ByteArray) (hs : s.size ≤ 1048576) (w : World) : Calls Tryz.prog 34 #[.string nm, .string s] w (RReadPost nm s w) := by
  obtain ⟨P0, hP0⟩ : ∃ P0, P0 = w.heap.size := ⟨_, rfl⟩
  have HP0 := Lib.hid hP0
  obtain ⟨W1, hW1⟩ : ∃ W1, W1 = (w.alloc (.cells #[.string ⟨#[]⟩, .int .i64 0, .int .i64 0, .string ⟨#[]⟩, .slice none 0 0, .slice none 0 0] 29)).alloc (.cells #[.string nm, .int .i64 0, .int .i64 0, .string ⟨#[]⟩, .slice none 0 0, .slice none 0 0] 29) := ⟨_, rfl⟩
  have T4 : Hid (W1.heap[P0]? = some (.cells #[.string ⟨#[]⟩, .int .i64 0, .int .i64 0, .string ⟨#[]⟩, .slice none 0 0, .slice none 0 0] 29 (0, 0))) := by
    show W1.heap[P0]? = _
    rw [hW1, hP0]
    exact (Below.heap_alloc _ _ _ (by simp)).trans (heap_alloc_new _ _)
  have T6 : Hid (W1.heap[P0 + 1]? = some (.cells #[.string nm, .int .i64 0, .int .i64 0, .string ⟨#[]⟩, .slice none 0 0, .slice none 0 0] 29 (0, 0))) := by
    have := heap_alloc_new (w.alloc (.cells #[.string ⟨#[]⟩, .int .i64 0, .int .i64 0, .string ⟨#[]⟩, .slice none 0 0, .slice none 0 0] 29)) (.cells #[.string nm, .int .i64 0, .int .i64 0, .string ⟨#[]⟩, .slice none 0 0, .slice none 0 0] 29)
    show W1.heap[P0 + 1]? = _
    rw [hW1, hP0]
    simpa using this
  have B1 : Hid (Below P0 w W1) := by
    show Below _ _ _
    rw [hW1, hP0]
    exact ((Below.refl _ w).alloc (Nat.le_refl _) _).alloc (by simp) _
  have HSZ := Lib.hid hs
  have hszi : (s.size : Int) ≤ 1048576 := by omega
  by_cases h0 : s.size = 0
  · have HN := Lib.hid (rd_none (nm := nm) h0)
    have hem : s.toList.isEmpty = true := by
      rw [ByteArray.toList_eq]
      rw [size_eq] at h0
      rw [List.eq_nil_of_length_eq_zero h0]
      rfl
    clear h0
    go_enter Tryz.func34, Tryz.ntmps34
    go_upto_block 0 with fail
    rw [← hW1, ← hP0]
    clear hW1 hP0
    obtain ⟨c0, c1, c2, c3, c4, c5, cf⟩ := cells6 T6.out
    obtain ⟨d0, d1, d2, d3, d4, d5, df⟩ := cells6 T4.out
    go_wp2_with fail
    refine bodyPost_ret (v := .tuple #[.agg #[.string nm, .int .i64 0, .int .i64 0, .string ⟨#[]⟩, .slice none 0 0, .slice none 0 0], .bool false]) (results_cell_tmp Tryz.results34 rfl rfl (attVarA (set6_block T4.out))) rfl ?_
    exact ⟨by rw [← HP0.out]; exact below_set6 B1.out (Nat.le_refl _), .inr ⟨HN.out, ⟨nm, 0, 0, ⟨#[]⟩, [], []⟩, none, 0, none, 0, rfl⟩⟩
  have hem : s.toList.isEmpty = false := by
    rw [ByteArray.toList_eq]
    cases hl : s.data.toList with
    | nil => rw [size_eq, hl] at h0; exact absurd rfl h0
    | cons c t => rfl
  have hpos : 0 < s.size := by omega
  have hix0 := fun w => ix_at (s := s) (m := 0) (z := 0) rfl hpos w
  have hhd := head_of hpos
  have hc256 := (s[0]'hpos).toNat_lt
  generalize s[0]'hpos = c at hix0 hhd hc256
  have HHD := Lib.hid hhd
  have HPOS := Lib.hid hpos
  clear hhd h0 hs hpos
  go_enter Tryz.func34, Tryz.ntmps34
  go_upto_block 0 with fail
  rw [← hW1, ← hP0]
  clear hW1 hP0
  go_cut [7] (fun x w' => ∃ (ok : Bool) (a : At) (ai : Option Addr) (ci : Nat) (ao : Option Addr) (ct : Nat), x = .bool ok ∧ Hid (RdW w P0 nm s a ok ai ci ao ct w'))
  case first =>
    by_cases h34 : c.toNat = 34
    · have k34 : (c.toNat : Int) = 34 := by omega
      have HC := Lib.hid h34
      clear h34
      obtain ⟨c0, c1, c2, c3, c4, c5, cf⟩ := cells6 T6.out
      obtain ⟨Wk, hWk⟩ : ∃ Wk, Wk = W1.setCell ⟨P0 + 1, 1, none⟩ (.int .i64 1) := ⟨_, rfl⟩
      have K6 : Hid (Wk.heap[P0 + 1]? = some (.cells #[.string nm, .int .i64 1, .int .i64 0, .string ⟨#[]⟩, .slice none 0 0, .slice none 0 0] 29 (0, 0))) := by show Wk.heap[P0 + 1]? = _; rw [hWk]; exact set_1 T6.out _
      have K4 : Hid (Wk.heap[P0]? = some (.cells #[.string ⟨#[]⟩, .int .i64 0, .int .i64 0, .string ⟨#[]⟩, .slice none 0 0, .slice none 0 0] 29 (0, 0))) := by show Wk.heap[P0]? = _; rw [hWk]; exact set_off T4.out (by omega) _
      have BK : Hid (Below P0 w Wk) := by show Below _ _ _; rw [hWk]; exact B1.out.setCell (p := ⟨P0 + 1, 1, none⟩) (by dsimp only; omega) _
      have KS := Lib.hid (lt_of_block K6.out)
      go_wp2_with fail
      rw [← hWk]
      refine (Unquote_any s HSZ.out Wk).mono ?_
      rintro e w2 ⟨hb, (⟨t, n, rfl, hns, hq, hu⟩ | ⟨hno, t, n, rfl⟩)⟩
      · have HRD := Lib.hid (rd_text_yes (nm := nm) HSZ.out HHD.out HC.out hq hu)
        have B2 := Lib.hid (BK.out.trans (hb.mono (by have := KS.out; omega)))
        have X6 := Lib.hid ((hb.block _ (lt_of_block K6.out)).trans K6.out)
        have X4 := Lib.hid ((hb.block _ (lt_of_block K4.out)).trans K4.out)
        clear hb
        clear hq hu
        by_cases hn : n = s.size
        · have hni : (n : Int) = (s.size : Int) := by omega
          rw [decide_eq_true hn] at HRD
          clear hn hns
          obtain ⟨e0, e1, e2, e3, e4, e5, ef⟩ := cells6 X6.out
          go_wp2_with fail
          go_meet
          exact ⟨true, _, none, 0, none, 0, rfl, set_off X4.out (by omega) _, set_3 X6.out _, B2.out.setCell (p := ⟨P0 + 1, 3, none⟩) (by dsimp only; omega) _, .inl rfl, .inl rfl, Nat.le_refl _, Nat.le_refl _, none_new, none_new, HRD.out⟩
        · have hni : ¬ (n : Int) = (s.size : Int) := by omega
          have hnb : ((n : Int) == (s.size : Int)) = false := beq_eq_false_iff_ne.2 hni
          rw [decide_eq_false hn] at HRD
          clear hn hns
          obtain ⟨e0, e1, e2, e3, e4, e5, ef⟩ := cells6 X6.out
          go_wp2_with fail
          go_meet
          exact ⟨false, _, none, 0, none, 0, rfl, set_off X4.out (by omega) _, set_3 X6.out _, B2.out.setCell (p := ⟨P0 + 1, 3, none⟩) (by dsimp only; omega) _, .inl rfl, .inl rfl, Nat.le_refl _, Nat.le_refl _, none_new, none_new, HRD.out⟩
      · have HRD := Lib.hid (rd_text_no (nm := nm) HHD.out HC.out hno t)
        have B2 := Lib.hid (BK.out.trans (hb.mono (by have := KS.out; omega)))
        have X6 := Lib.hid ((hb.block _ (lt_of_block K6.out)).trans K6.out)
        have X4 := Lib.hid ((hb.block _ (lt_of_block K4.out)).trans K4.out)
        clear hb
        clear hno
        obtain ⟨e0, e1, e2, e3, e4, e5, ef⟩ := cells6 X6.out
        go_wp2_with fail
        go_meet
        exact ⟨false, _, none, 0, none, 0, rfl, set_off X4.out (by omega) _, set_3 X6.out _, B2.out.setCell (p := ⟨P0 + 1, 3, none⟩) (by dsimp only; omega) _, .inl rfl, .inl rfl, Nat.le_refl _, Nat.le_refl _, none_new, none_new, HRD.out⟩
    have k34 : ¬ (c.toNat : Int) = 34 := by omega
    by_cases h64 : c.toNat = 64
    · have k64 : (c.toNat : Int) = 64 := by omega
      obtain ⟨X, hX⟩ : ∃ X, s.extract 1 s.size = X := ⟨_, rfl⟩
      have HRD := Lib.hid (rd_symbol (nm := nm) (t := X) HSZ.out HHD.out h64 (by rw [← hX, back_extract, List.drop_one]))
      have h1i : (1 : Int) ≤ (s.size : Int) := by have := HPOS.out; omega
      clear h34 h64
      obtain ⟨c0, c1, c2, c3, c4, c5, cf⟩ := cells6 T6.out
      obtain ⟨Wk, hWk⟩ : ∃ Wk, Wk = W1.setCell ⟨P0 + 1, 1, none⟩ (.int .i64 2) := ⟨_, rfl⟩
      have K6 : Hid (Wk.heap[P0 + 1]? = some (.cells #[.string nm, .int .i64 2, .int .i64 0, .string ⟨#[]⟩, .slice none 0 0, .slice none 0 0] 29 (0, 0))) := by show Wk.heap[P0 + 1]? = _; rw [hWk]; exact set_1 T6.out _
      have K4 : Hid (Wk.heap[P0]? = some (.cells #[.string ⟨#[]⟩, .int .i64 0, .int .i64 0, .string ⟨#[]⟩, .slice none 0 0, .slice none 0 0] 29 (0, 0))) := by show Wk.heap[P0]? = _; rw [hWk]; exact set_off T4.out (by omega) _
      have BK : Hid (Below P0 w Wk) := by show Below _ _ _; rw [hWk]; exact B1.out.setCell (p := ⟨P0 + 1, 1, none⟩) (by dsimp only; omega) _
      have KS := Lib.hid (lt_of_block K6.out)
      obtain ⟨e0, e1, e2, e3, e4, e5, ef⟩ := cells6 K6.out
      go_wp2_with fail
      try rw [← hWk]
      go_meet
      exact ⟨true, _, none, 0, none, 0, rfl, set_off K4.out (by omega) _, set_3 K6.out _, BK.out.setCell (p := ⟨P0 + 1, 3, none⟩) (by dsimp only; omega) _, .inl rfl, .inl rfl, Nat.le_refl _, Nat.le_refl _, none_new, none_new, HRD.out⟩
    have k64 : ¬ (c.toNat : Int) = 64 := by omega
    by_cases h91 : c.toNat = 91
    · have k91 : (c.toNat : Int) = 91 := by omega
      have HC := Lib.hid h91
      clear h34 h64 h91
      obtain ⟨c0, c1, c2, c3, c4, c5, cf⟩ := cells6 T6.out
      obtain ⟨Wk, hWk⟩ : ∃ Wk, Wk = W1.setCell ⟨P0 + 1, 1, none⟩ (.int .i64 4) := ⟨_, rfl⟩
      have K6 : Hid (Wk.heap[P0 + 1]? = some (.cells #[.string nm, .int .i64 4, .int .i64 0, .string ⟨#[]⟩, .slice none 0 0, .slice none 0 0] 29 (0, 0))) := by show Wk.heap[P0 + 1]? = _; rw [hWk]; exact set_1 T6.out _
      have K4 : Hid (Wk.heap[P0]? = some (.cells #[.string ⟨#[]⟩, .int .i64 0, .int .i64 0, .string ⟨#[]⟩, .slice none 0 0, .slice none 0 0] 29 (0, 0))) := by show Wk.heap[P0]? = _; rw [hWk]; exact set_off T4.out (by omega) _
      have BK : Hid (Below P0 w Wk) := by show Below _ _ _; rw [hWk]; exact B1.out.setCell (p := ⟨P0 + 1, 1, none⟩) (by dsimp only; omega) _
      have KS := Lib.hid (lt_of_block K6.out)
      go_wp2_with fail
      rw [← hWk]
      refine (Rnumbers_any s HSZ.out Wk).mono ?_
      rintro e w2 ⟨hb, (⟨hz, rfl⟩ | ⟨zs, ao, ct, hz, hzs, hct, hfr, rfl⟩)⟩
      · have HRD := Lib.hid (rd_ints_no (nm := nm) HHD.out HC.out hz)
        have B2 := Lib.hid (BK.out.trans (hb.mono (by have := KS.out; omega)))
        have X6 := Lib.hid ((hb.block _ (lt_of_block K6.out)).trans K6.out)
        have X4 := Lib.hid ((hb.block _ (lt_of_block K4.out)).trans K4.out)
        clear hb
        clear hz
        obtain ⟨e0, e1, e2, e3, e4, e5, ef⟩ := cells6 X6.out
        go_wp2_with fail
        go_meet
        exact ⟨false, _, none, 0, none, 0, rfl, set_off X4.out (by omega) _, set_4 X6.out _, B2.out.setCell (p := ⟨P0 + 1, 4, none⟩) (by dsimp only; omega) _, .inl rfl, .inl rfl, Nat.le_refl _, Nat.le_refl _, none_new, none_new, HRD.out⟩
      · have HLN := Lib.hid (show zs.length ≤ 9223372036854775807 from nums_len HSZ.out hz)
        have HRD := Lib.hid (rd_ints_yes (nm := nm) HHD.out HC.out hz HLN.out)
        have HZS := Lib.hid hzs
        have HCT := Lib.hid hct
        have HFR := Lib.hid (show ∀ x, ao = some x → P0 + 2 ≤ x.block from fun x e => by have := hfr x e; have := KS.out; omega)
        have B2 := Lib.hid (BK.out.trans (hb.mono (by have := KS.out; omega)))
        have X6 := Lib.hid ((hb.block _ (lt_of_block K6.out)).trans K6.out)
        have X4 := Lib.hid ((hb.block _ (lt_of_block K4.out)).trans K4.out)
        clear hb
        clear hz hzs hct hfr
        obtain ⟨e0, e1, e2, e3, e4, e5, ef⟩ := cells6 X6.out
        go_wp2_with fail
        go_meet
        exact ⟨true, _, ao, ct, none, 0, rfl, set_off X4.out (by omega) _, set_4 X6.out _, B2.out.setCell (p := ⟨P0 + 1, 4, none⟩) (by dsimp only; omega) _, HZS.out.moved HFR.out (fun k hk => heap_setCell_other _ _ _ _ (by dsimp only; omega)), .inl rfl, HCT.out, Nat.le_refl _, HFR.out, none_new, HRD.out⟩
    have k91 : ¬ (c.toNat : Int) = 91 := by omega
    by_cases h40 : c.toNat = 40
    · have k40 : (c.toNat : Int) = 40 := by omega
      have HC := Lib.hid h40
      clear h34 h64 h91 h40
      obtain ⟨c0, c1, c2, c3, c4, c5, cf⟩ := cells6 T6.out
      obtain ⟨Wk, hWk⟩ : ∃ Wk, Wk = W1.setCell ⟨P0 + 1, 1, none⟩ (.int .i64 5) := ⟨_, rfl⟩
      have K6 : Hid (Wk.heap[P0 + 1]? = some (.cells #[.string nm, .int .i64 5, .int .i64 0, .string ⟨#[]⟩, .slice none 0 0, .slice none 0 0] 29 (0, 0))) := by show Wk.heap[P0 + 1]? = _; rw [hWk]; exact set_1 T6.out _
      have K4 : Hid (Wk.heap[P0]? = some (.cells #[.string ⟨#[]⟩, .int .i64 0, .int .i64 0, .string ⟨#[]⟩, .slice none 0 0, .slice none 0 0] 29 (0, 0))) := by show Wk.heap[P0]? = _; rw [hWk]; exact set_off T4.out (by omega) _
      have BK : Hid (Below P0 w Wk) := by show Below _ _ _; rw [hWk]; exact B1.out.setCell (p := ⟨P0 + 1, 1, none⟩) (by dsimp only; omega) _
      have KS := Lib.hid (lt_of_block K6.out)
      go_wp2_with fail
      rw [← hWk]
      refine (SplitF_any s HSZ.out Wk).mono ?_
      rintro e w2 ⟨hb, (⟨hz, rfl⟩ | ⟨ps, ao, ct, hz, hzs, hct, hfr, rfl⟩)⟩
      · have HRD := Lib.hid (rd_types_no (nm := nm) HHD.out HC.out hz)
        have B2 := Lib.hid (BK.out.trans (hb.mono (by have := KS.out; omega)))
        have X6 := Lib.hid ((hb.block _ (lt_of_block K6.out)).trans K6.out)
        have X4 := Lib.hid ((hb.block _ (lt_of_block K4.out)).trans K4.out)
        clear hb
        clear hz
        obtain ⟨e0, e1, e2, e3, e4, e5, ef⟩ := cells6 X6.out
        go_wp2_with fail
        go_meet
        exact ⟨false, _, none, 0, none, 0, rfl, set_off X4.out (by omega) _, set_5 X6.out _, B2.out.setCell (p := ⟨P0 + 1, 5, none⟩) (by dsimp only; omega) _, .inl rfl, .inl rfl, Nat.le_refl _, Nat.le_refl _, none_new, none_new, HRD.out⟩
      · have HLN := Lib.hid (show ps.length ≤ 9223372036854775807 from types_len HSZ.out hz)
        have HRD := Lib.hid (rd_types_yes (nm := nm) HHD.out HC.out hz HLN.out)
        have HZS := Lib.hid hzs
        have HCT := Lib.hid hct
        have HFR := Lib.hid (show ∀ x, ao = some x → P0 + 2 ≤ x.block from fun x e => by have := hfr x e; have := KS.out; omega)
        have B2 := Lib.hid (BK.out.trans (hb.mono (by have := KS.out; omega)))
        have X6 := Lib.hid ((hb.block _ (lt_of_block K6.out)).trans K6.out)
        have X4 := Lib.hid ((hb.block _ (lt_of_block K4.out)).trans K4.out)
        clear hb
        clear hz hzs hct hfr
        obtain ⟨e0, e1, e2, e3, e4, e5, ef⟩ := cells6 X6.out
        generalize decide (ps.length ≤ 100) = okp at HRD ⊢
        go_wp2_with fail
        go_meet
        exact ⟨okp, _, none, 0, ao, ct, rfl, set_off X4.out (by omega) _, set_5 X6.out _, B2.out.setCell (p := ⟨P0 + 1, 5, none⟩) (by dsimp only; omega) _, .inl rfl, HZS.out.moved HFR.out (fun k hk => heap_setCell_other _ _ _ _ (by dsimp only; omega)), Nat.le_refl _, HCT.out, none_new, HFR.out, HRD.out⟩
    have k40 : ¬ (c.toNat : Int) = 40 := by omega
    by_cases h45 : c.toNat = 45
    · have k45 : (c.toNat : Int) = 45 := by omega
      have HC := Lib.hid (show c.toNat = 45 ∨ bDigit c = true from .inl h45)
      clear h45
      clear h34 h64 h91 h40
      obtain ⟨c0, c1, c2, c3, c4, c5, cf⟩ := cells6 T6.out
      go_wp2_with fail
      refine (Rinteger_any s W1).mono ?_
      rintro e w2 ⟨rfl, (⟨z, hz, rfl⟩ | ⟨hz, z, rfl⟩)⟩
      · have HRD := Lib.hid (rd_int_yes (nm := nm) HHD.out HC.out hz)
        clear hz
        go_wp2_with fail
        go_meet
        exact ⟨true, _, none, 0, none, 0, rfl, set_off T4.out (by omega) _, set_2 T6.out _, B1.out.setCell (p := ⟨P0 + 1, 2, none⟩) (by dsimp only; omega) _, .inl rfl, .inl rfl, Nat.le_refl _, Nat.le_refl _, none_new, none_new, HRD.out⟩
      · have HRD := Lib.hid (rd_int_no (nm := nm) HHD.out HC.out hz z)
        clear hz
        go_wp2_with fail
        go_meet
        exact ⟨false, _, none, 0, none, 0, rfl, set_off T4.out (by omega) _, set_2 T6.out _, B1.out.setCell (p := ⟨P0 + 1, 2, none⟩) (by dsimp only; omega) _, .inl rfl, .inl rfl, Nat.le_refl _, Nat.le_refl _, none_new, none_new, HRD.out⟩
    have k45 : ¬ (c.toNat : Int) = 45 := by omega
    by_cases h48 : 48 ≤ c.toNat
    · have k48 : 48 ≤ (c.toNat : Int) := by omega
      by_cases h57 : c.toNat ≤ 57
      · have k57 : (c.toNat : Int) ≤ 57 := by omega
        have HC := Lib.hid (show c.toNat = 45 ∨ bDigit c = true from .inr ((digit_iff c).2 ⟨h48, h57⟩))
        clear h45 h48 h57
        clear h34 h64 h91 h40
        obtain ⟨c0, c1, c2, c3, c4, c5, cf⟩ := cells6 T6.out
        go_wp2_with fail
        refine (Rinteger_any s W1).mono ?_
        rintro e w2 ⟨rfl, (⟨z, hz, rfl⟩ | ⟨hz, z, rfl⟩)⟩
        · have HRD := Lib.hid (rd_int_yes (nm := nm) HHD.out HC.out hz)
          clear hz
          go_wp2_with fail
          go_meet
          exact ⟨true, _, none, 0, none, 0, rfl, set_off T4.out (by omega) _, set_2 T6.out _, B1.out.setCell (p := ⟨P0 + 1, 2, none⟩) (by dsimp only; omega) _, .inl rfl, .inl rfl, Nat.le_refl _, Nat.le_refl _, none_new, none_new, HRD.out⟩
        · have HRD := Lib.hid (rd_int_no (nm := nm) HHD.out HC.out hz z)
          clear hz
          go_wp2_with fail
          go_meet
          exact ⟨false, _, none, 0, none, 0, rfl, set_off T4.out (by omega) _, set_2 T6.out _, B1.out.setCell (p := ⟨P0 + 1, 2, none⟩) (by dsimp only; omega) _, .inl rfl, .inl rfl, Nat.le_refl _, Nat.le_refl _, none_new, none_new, HRD.out⟩
      · have k57 : ¬ (c.toNat : Int) ≤ 57 := by omega
        have HRD := Lib.hid (rd_type (nm := nm) HSZ.out HHD.out h45 (by cases hd : bDigit c with | false => rfl | true => exact absurd ((digit_iff c).1 hd).2 h57) h34 h64 h91 h40)
        clear h34 h64 h91 h40 h45 h48 h57
        obtain ⟨c0, c1, c2, c3, c4, c5, cf⟩ := cells6 T6.out
        obtain ⟨Wk, hWk⟩ : ∃ Wk, Wk = W1.setCell ⟨P0 + 1, 1, none⟩ (.int .i64 3) := ⟨_, rfl⟩
        have K6 : Hid (Wk.heap[P0 + 1]? = some (.cells #[.string nm, .int .i64 3, .int .i64 0, .string ⟨#[]⟩, .slice none 0 0, .slice none 0 0] 29 (0, 0))) := by show Wk.heap[P0 + 1]? = _; rw [hWk]; exact set_1 T6.out _
        have K4 : Hid (Wk.heap[P0]? = some (.cells #[.string ⟨#[]⟩, .int .i64 0, .int .i64 0, .string ⟨#[]⟩, .slice none 0 0, .slice none 0 0] 29 (0, 0))) := by show Wk.heap[P0]? = _; rw [hWk]; exact set_off T4.out (by omega) _
        have BK : Hid (Below P0 w Wk) := by show Below _ _ _; rw [hWk]; exact B1.out.setCell (p := ⟨P0 + 1, 1, none⟩) (by dsimp only; omega) _
        have KS := Lib.hid (lt_of_block K6.out)
        obtain ⟨e0, e1, e2, e3, e4, e5, ef⟩ := cells6 K6.out
        go_wp2_with fail
        try rw [← hWk]
        go_meet
        exact ⟨true, _, none, 0, none, 0, rfl, set_off K4.out (by omega) _, set_3 K6.out _, BK.out.setCell (p := ⟨P0 + 1, 3, none⟩) (by dsimp only; omega) _, .inl rfl, .inl rfl, Nat.le_refl _, Nat.le_refl _, none_new, none_new, HRD.out⟩
    · have k48 : ¬ 48 ≤ (c.toNat : Int) := by omega
      have HRD := Lib.hid (rd_type (nm := nm) HSZ.out HHD.out h45 (by cases hd : bDigit c with | false => rfl | true => exact absurd ((digit_iff c).1 hd).1 h48) h34 h64 h91 h40)
      clear h34 h64 h91 h40 h45 h48
      obtain ⟨c0, c1, c2, c3, c4, c5, cf⟩ := cells6 T6.out
      obtain ⟨Wk, hWk⟩ : ∃ Wk, Wk = W1.setCell ⟨P0 + 1, 1, none⟩ (.int .i64 3) := ⟨_, rfl⟩
      have K6 : Hid (Wk.heap[P0 + 1]? = some (.cells #[.string nm, .int .i64 3, .int .i64 0, .string ⟨#[]⟩, .slice none 0 0, .slice none 0 0] 29 (0, 0))) := by show Wk.heap[P0 + 1]? = _; rw [hWk]; exact set_1 T6.out _
      have K4 : Hid (Wk.heap[P0]? = some (.cells #[.string ⟨#[]⟩, .int .i64 0, .int .i64 0, .string ⟨#[]⟩, .slice none 0 0, .slice none 0 0] 29 (0, 0))) := by show Wk.heap[P0]? = _; rw [hWk]; exact set_off T4.out (by omega) _
      have BK : Hid (Below P0 w Wk) := by show Below _ _ _; rw [hWk]; exact B1.out.setCell (p := ⟨P0 + 1, 1, none⟩) (by dsimp only; omega) _
      have KS := Lib.hid (lt_of_block K6.out)
      obtain ⟨e0, e1, e2, e3, e4, e5, ef⟩ := cells6 K6.out
      go_wp2_with fail
      try rw [← hWk]
      go_meet
      exact ⟨true, _, none, 0, none, 0, rfl, set_off K4.out (by omega) _, set_3 K6.out _, BK.out.setCell (p := ⟨P0 + 1, 3, none⟩) (by dsimp only; omega) _, .inl rfl, .inl rfl, Nat.le_refl _, Nat.le_refl _, none_new, none_new, HRD.out⟩
  case rest =>
    obtain ⟨ok, a, ai, ci, ao, ct, rfl, hh⟩ := hcut
    have RD := Lib.hid hh.out.rd
    have HIC := Lib.hid (And.intro hh.out.icap hh.out.tcap)
    have HNI := Lib.hid hh.out.ni
    have HNT := Lib.hid hh.out.nt
    have hS0 : wc.cell? ⟨P0 + 1, 0, none⟩ = some (.string a.name) ∧ wc.cell? ⟨P0 + 1, 1, none⟩ = some (.int .i64 a.kind) ∧ wc.cell? ⟨P0 + 1, 2, none⟩ = some (.int .i64 a.num) ∧ wc.cell? ⟨P0 + 1, 3, none⟩ = some (.string a.text) ∧ wc.cell? ⟨P0 + 1, 4, none⟩ = some (.slice ai a.ints.length ci) ∧ wc.cell? ⟨P0 + 1, 5, none⟩ = some (.slice ao a.texts.length ct) ∧ Hid (RdS w P0 a ai ao wc) := by
      obtain ⟨c0, c1, c2, c3, c4, c5, _⟩ := cells6 hh.out.t6
      exact ⟨c0, c1, c2, c3, c4, c5, hh.out.below, hh.out.ints, hh.out.texts, ⟨_, _, _, _, _, _, hh.out.t4⟩, lt_of_block hh.out.t6⟩
    have HST := Lib.hid (show ∀ X Y, (X.cell? ⟨P0 + 1, 0, none⟩ = some (.string a.name) ∧ X.cell? ⟨P0 + 1, 1, none⟩ = some (.int .i64 a.kind) ∧ X.cell? ⟨P0 + 1, 2, none⟩ = some (.int .i64 a.num) ∧ X.cell? ⟨P0 + 1, 3, none⟩ = some (.string a.text) ∧ X.cell? ⟨P0 + 1, 4, none⟩ = some (.slice ai a.ints.length ci) ∧ X.cell? ⟨P0 + 1, 5, none⟩ = some (.slice ao a.texts.length ct) ∧ Hid (RdS w P0 a ai ao X)) → Below X.heap.size X Y → (Y.cell? ⟨P0 + 1, 0, none⟩ = some (.string a.name) ∧ Y.cell? ⟨P0 + 1, 1, none⟩ = some (.int .i64 a.kind) ∧ Y.cell? ⟨P0 + 1, 2, none⟩ = some (.int .i64 a.num) ∧ Y.cell? ⟨P0 + 1, 3, none⟩ = some (.string a.text) ∧ Y.cell? ⟨P0 + 1, 4, none⟩ = some (.slice ai a.ints.length ci) ∧ Y.cell? ⟨P0 + 1, 5, none⟩ = some (.slice ao a.texts.length ct) ∧ Hid (RdS w P0 a ai ao Y)) from fun X Y h hb => RdS.step h hb)
    have HST2 := Lib.hid (show ∀ X, (X.cell? ⟨P0 + 1, 0, none⟩ = some (.string a.name) ∧ X.cell? ⟨P0 + 1, 1, none⟩ = some (.int .i64 a.kind) ∧ X.cell? ⟨P0 + 1, 2, none⟩ = some (.int .i64 a.num) ∧ X.cell? ⟨P0 + 1, 3, none⟩ = some (.string a.text) ∧ X.cell? ⟨P0 + 1, 4, none⟩ = some (.slice ai a.ints.length ci) ∧ X.cell? ⟨P0 + 1, 5, none⟩ = some (.slice ao a.texts.length ct) ∧ Hid (RdS w P0 a ai ao X)) → (((((((X.setCell ⟨P0, 0, none⟩ (.string a.name)).setCell ⟨P0, 1, none⟩ (.int .i64 a.kind)).setCell ⟨P0, 2, none⟩ (.int .i64 a.num)).setCell ⟨P0, 3, none⟩ (.string a.text)).setCell ⟨P0, 4, none⟩ (.slice ai a.ints.length ci)).setCell ⟨P0, 5, none⟩ (.slice ao a.texts.length ct)).cell? ⟨P0 + 1, 0, none⟩ = some (.string a.name) ∧ ((((((X.setCell ⟨P0, 0, none⟩ (.string a.name)).setCell ⟨P0, 1, none⟩ (.int .i64 a.kind)).setCell ⟨P0, 2, none⟩ (.int .i64 a.num)).setCell ⟨P0, 3, none⟩ (.string a.text)).setCell ⟨P0, 4, none⟩ (.slice ai a.ints.length ci)).setCell ⟨P0, 5, none⟩ (.slice ao a.texts.length ct)).cell? ⟨P0 + 1, 1, none⟩ = some (.int .i64 a.kind) ∧ ((((((X.setCell ⟨P0, 0, none⟩ (.string a.name)).setCell ⟨P0, 1, none⟩ (.int .i64 a.kind)).setCell ⟨P0, 2, none⟩ (.int .i64 a.num)).setCell ⟨P0, 3, none⟩ (.string a.text)).setCell ⟨P0, 4, none⟩ (.slice ai a.ints.length ci)).setCell ⟨P0, 5, none⟩ (.slice ao a.texts.length ct)).cell? ⟨P0 + 1, 2, none⟩ = some (.int .i64 a.num) ∧ ((((((X.setCell ⟨P0, 0, none⟩ (.string a.name)).setCell ⟨P0, 1, none⟩ (.int .i64 a.kind)).setCell ⟨P0, 2, none⟩ (.int .i64 a.num)).setCell ⟨P0, 3, none⟩ (.string a.text)).setCell ⟨P0, 4, none⟩ (.slice ai a.ints.length ci)).setCell ⟨P0, 5, none⟩ (.slice ao a.texts.length ct)).cell? ⟨P0 + 1, 3, none⟩ = some (.string a.text) ∧ ((((((X.setCell ⟨P0, 0, none⟩ (.string a.name)).setCell ⟨P0, 1, none⟩ (.int .i64 a.kind)).setCell ⟨P0, 2, none⟩ (.int .i64 a.num)).setCell ⟨P0, 3, none⟩ (.string a.text)).setCell ⟨P0, 4, none⟩ (.slice ai a.ints.length ci)).setCell ⟨P0, 5, none⟩ (.slice ao a.texts.length ct)).cell? ⟨P0 + 1, 4, none⟩ = some (.slice ai a.ints.length ci) ∧ ((((((X.setCell ⟨P0, 0, none⟩ (.string a.name)).setCell ⟨P0, 1, none⟩ (.int .i64 a.kind)).setCell ⟨P0, 2, none⟩ (.int .i64 a.num)).setCell ⟨P0, 3, none⟩ (.string a.text)).setCell ⟨P0, 4, none⟩ (.slice ai a.ints.length ci)).setCell ⟨P0, 5, none⟩ (.slice ao a.texts.length ct)).cell? ⟨P0 + 1, 5, none⟩ = some (.slice ao a.texts.length ct) ∧ Hid (RdS w P0 a ai ao ((((((X.setCell ⟨P0, 0, none⟩ (.string a.name)).setCell ⟨P0, 1, none⟩ (.int .i64 a.kind)).setCell ⟨P0, 2, none⟩ (.int .i64 a.num)).setCell ⟨P0, 3, none⟩ (.string a.text)).setCell ⟨P0, 4, none⟩ (.slice ai a.ints.length ci)).setCell ⟨P0, 5, none⟩ (.slice ao a.texts.length ct)))) from fun X h => RdS.stored HNI.out HNT.out h)
    have HSD := HST.out _ _ hS0 (Below.refl wc.heap.size wc).drew
    clear hS0 hh T4 T6 B1
    cases ok with
    | false =>
      have HNO := Lib.hid (show ∀ b : At, rightB b = true → b.Wf → b.name = nm → valueL b ≠ s.data.toList from fun b h1 h2 h3 h4 => by cases (RD.out.full b h1 h2 h3 h4).1)
      go_upto_region 23 with fail
      refine wp_region_held_drew (S := fun w' => w'.cell? ⟨P0 + 1, 0, none⟩ = some (.string a.name) ∧ w'.cell? ⟨P0 + 1, 1, none⟩ = some (.int .i64 a.kind) ∧ w'.cell? ⟨P0 + 1, 2, none⟩ = some (.int .i64 a.num) ∧ w'.cell? ⟨P0 + 1, 3, none⟩ = some (.string a.text) ∧ w'.cell? ⟨P0 + 1, 4, none⟩ = some (.slice ai a.ints.length ci) ∧ w'.cell? ⟨P0 + 1, 5, none⟩ = some (.slice ao a.texts.length ct) ∧ Hid (RdS w P0 a ai ao w')) (by kernel_rfl) HSD (fun hHeld => ?_)
      refine wpAnyH_take (i := 0) (v := .agg #[.string a.name, .int .i64 a.kind, .int .i64 a.num, .string a.text, .slice ai a.ints.length ci, .slice ao a.texts.length ct]) rfl (by kernel_rfl) (by kernel_rfl) (by kernel_rfl) (fun _ _ _ h => h) (Or.inl ⟨by rfl, ?_⟩) hHeld ?_
      · intro w hSw
        try dsimp only at hSw
        go_simp
      simp only [Act.put, List.getElem_toArray, List.getElem_cons_zero, List.setIfInBounds_toArray, List.set_cons_succ, List.set_cons_zero]
      refine wpAnyH_take (i := 1) (v := .bool false) rfl (by kernel_rfl) (by kernel_rfl) (by kernel_rfl) (fun _ _ _ h => h) (Or.inl ⟨by rfl, ?_⟩) hHeld ?_
      · intro w hSw
        try dsimp only at hSw
        go_simp
      simp only [Act.put, List.getElem_toArray, List.getElem_cons_succ, List.getElem_cons_zero, List.setIfInBounds_toArray, List.set_cons_succ, List.set_cons_zero]
      refine wpAnyH_take (i := 2) (v := .bool false) rfl (by kernel_rfl) (by kernel_rfl) (by kernel_rfl) (fun _ _ _ h => h) (Or.inl ⟨by rfl, ?_⟩) hHeld ?_
      · intro w hSw
        try dsimp only at hSw
        go_simp
      simp only [Act.put, List.getElem_toArray, List.getElem_cons_succ, List.getElem_cons_zero, List.setIfInBounds_toArray, List.set_cons_succ, List.set_cons_zero]
      refine wpAnyH_take (i := 3) (v := undef) rfl (by kernel_rfl) (by kernel_rfl) (by kernel_rfl) (fun _ _ _ h => h) (Or.inr ⟨by rfl, rfl⟩) hHeld ?_
      simp only [Act.put, List.getElem_toArray, List.getElem_cons_succ, List.getElem_cons_zero, List.setIfInBounds_toArray, List.set_cons_succ, List.set_cons_zero]
      refine wpAnyH_take (i := 4) (v := undef) rfl (by kernel_rfl) (by kernel_rfl) (by kernel_rfl) (fun _ _ _ h => h) (Or.inr ⟨by rfl, rfl⟩) hHeld ?_
      simp only [Act.put, List.getElem_toArray, List.getElem_cons_succ, List.getElem_cons_zero, List.setIfInBounds_toArray, List.set_cons_succ, List.set_cons_zero]
      refine wpAnyH_take (i := 5) (v := .bool false) rfl (by kernel_rfl) (by kernel_rfl) (by kernel_rfl) (fun _ _ _ h => h) (Or.inl ⟨by rfl, ?_⟩) hHeld ?_
      · intro w hSw
        try dsimp only at hSw
        go_simp
      simp only [Act.put, List.getElem_toArray, List.getElem_cons_succ, List.getElem_cons_zero, List.setIfInBounds_toArray, List.set_cons_succ, List.set_cons_zero]
      clear HSD
      generalize wc.drew = w4 at hHeld ⊢
      have X4 := Lib.hid hHeld.2.2.2.2.2.2.out.t4
      obtain ⟨u0, u1, u2, u3, u4, u5, hu⟩ := X4.out
      have XU := Lib.hid hu
      have HRS := Lib.hid hHeld.2.2.2.2.2.2.out
      have HSS := Lib.hid (HST2.out _ hHeld)
      obtain ⟨d0, d1, d2, d3, d4, d5, df⟩ := cells6 hu
      clear hu
      refine wpAnyH_ready (rs := [6]) (by kernel_rfl) (by simp) ?_
      refine AllReadyH.cons rfl (fun K hK => ?_) AllReadyH.nil
      go_simp
      refine hK.out _ _ HSS.out (fun hHeld2 => ?_)
      clear hK K hHeld d0 d1 d2 d3 d4 d5 df
      try simp only [Act.put, List.getElem_toArray, List.getElem_cons_succ, List.getElem_cons_zero, List.setIfInBounds_toArray, List.set_cons_succ, List.set_cons_zero]
      refine wpAnyH_take (i := 7) (v := .bool false) rfl (by kernel_rfl) (by kernel_rfl) (by kernel_rfl) (fun _ _ _ h => h) (Or.inl ⟨by rfl, ?_⟩) hHeld2 ?_
      · intro w hSw
        try dsimp only at hSw
        go_simp
      simp only [Act.put, List.getElem_toArray, List.getElem_cons_succ, List.getElem_cons_zero, List.setIfInBounds_toArray, List.set_cons_succ, List.set_cons_zero]
      refine wpAnyH_done (by kernel_rfl) ?_ _
      clear hHeld2
      go_wp2_with fail
      refine bodyPost_ret (v := .tuple #[.agg #[.string a.name, .int .i64 a.kind, .int .i64 a.num, .string a.text, .slice ai a.ints.length ci, .slice ao a.texts.length ct], .bool false]) (results_cell_tmp Tryz.results34 rfl rfl (attVarA (set6_block XU.out))) rfl ?_
      exact ⟨by rw [← HP0.out]; exact below_set6 HRS.out.below (Nat.le_refl _), .inr ⟨HNO.out, a, ai, ci, ao, ct, rfl⟩⟩
    | true =>
      go_upto_region 23 with fail
      refine wp_region_held_drew (S := fun w' => w'.cell? ⟨P0 + 1, 0, none⟩ = some (.string a.name) ∧ w'.cell? ⟨P0 + 1, 1, none⟩ = some (.int .i64 a.kind) ∧ w'.cell? ⟨P0 + 1, 2, none⟩ = some (.int .i64 a.num) ∧ w'.cell? ⟨P0 + 1, 3, none⟩ = some (.string a.text) ∧ w'.cell? ⟨P0 + 1, 4, none⟩ = some (.slice ai a.ints.length ci) ∧ w'.cell? ⟨P0 + 1, 5, none⟩ = some (.slice ao a.texts.length ct) ∧ Hid (RdS w P0 a ai ao w')) (by kernel_rfl) HSD (fun hHeld => ?_)
      refine wpAnyH_take (i := 0) (v := .agg #[.string a.name, .int .i64 a.kind, .int .i64 a.num, .string a.text, .slice ai a.ints.length ci, .slice ao a.texts.length ct]) rfl (by kernel_rfl) (by kernel_rfl) (by kernel_rfl) (fun _ _ _ h => h) (Or.inl ⟨by rfl, ?_⟩) hHeld ?_
      · intro w hSw
        try dsimp only at hSw
        go_simp
      simp only [Act.put, List.getElem_toArray, List.getElem_cons_zero, List.setIfInBounds_toArray, List.set_cons_succ, List.set_cons_zero]
      refine wpAnyH_take (i := 1) (v := .bool true) rfl (by kernel_rfl) (by kernel_rfl) (by kernel_rfl) (fun _ _ _ h => h) (Or.inl ⟨by rfl, ?_⟩) hHeld ?_
      · intro w hSw
        try dsimp only at hSw
        go_simp
      simp only [Act.put, List.getElem_toArray, List.getElem_cons_succ, List.getElem_cons_zero, List.setIfInBounds_toArray, List.set_cons_succ, List.set_cons_zero]
      refine wpAnyH_take (i := 2) (v := .bool true) rfl (by kernel_rfl) (by kernel_rfl) (by kernel_rfl) (fun _ _ _ h => h) (Or.inl ⟨by rfl, ?_⟩) hHeld ?_
      · intro w hSw
        try dsimp only at hSw
        go_simp
      simp only [Act.put, List.getElem_toArray, List.getElem_cons_succ, List.getElem_cons_zero, List.setIfInBounds_toArray, List.set_cons_succ, List.set_cons_zero]
      refine wpAnyH_take (i := 3) (v := .agg #[.string a.name, .int .i64 a.kind, .int .i64 a.num, .string a.text, .slice ai a.ints.length ci, .slice ao a.texts.length ct]) rfl (by kernel_rfl) (by kernel_rfl) (by kernel_rfl) (fun _ _ _ h => h) (Or.inl ⟨by rfl, ?_⟩) hHeld ?_
      · intro w hSw
        try dsimp only at hSw
        go_simp
      simp only [Act.put, List.getElem_toArray, List.getElem_cons_succ, List.getElem_cons_zero, List.setIfInBounds_toArray, List.set_cons_succ, List.set_cons_zero]
      have HRR := Lib.hid (show ∀ X, (X.cell? ⟨P0 + 1, 0, none⟩ = some (.string a.name) ∧ X.cell? ⟨P0 + 1, 1, none⟩ = some (.int .i64 a.kind) ∧ X.cell? ⟨P0 + 1, 2, none⟩ = some (.int .i64 a.num) ∧ X.cell? ⟨P0 + 1, 3, none⟩ = some (.string a.text) ∧ X.cell? ⟨P0 + 1, 4, none⟩ = some (.slice ai a.ints.length ci) ∧ X.cell? ⟨P0 + 1, 5, none⟩ = some (.slice ao a.texts.length ct) ∧ Hid (RdS w P0 a ai ao X)) → Calls Tryz.prog 22 #[.agg #[.string a.name, .int .i64 a.kind, .int .i64 a.num, .string a.text, .slice ai a.ints.length ci, .slice ao a.texts.length ct]] X fun e w' => e = .returned (.bool (rightB a)) ∧ Below X.heap.size X w' from fun X h => RRight_any a _ ai ci ao ct (RD.out.short rfl) X ⟨rfl, h.2.2.2.2.2.2.out.ints, h.2.2.2.2.2.2.out.texts, HIC.out.1, HIC.out.2, RD.out.wf rfl⟩)
      refine wpAnyH_ready (rs := [4]) (by kernel_rfl) (by simp) ?_
      refine AllReadyH.cons rfl (fun K hK => ?_) AllReadyH.nil
      go_simp
      go_at_call 22
      with_reducible refine (HRR.out _ hHeld).mono ?_
      rintro e w4 ⟨rfl, hb⟩
      try dsimp only
      refine hK.out _ _ (HST.out _ _ hHeld hb) (fun hHeld2 => ?_)
      clear hK K hb hHeld HRR
      try simp only [Act.put, List.getElem_toArray, List.getElem_cons_succ, List.getElem_cons_zero, List.setIfInBounds_toArray, List.set_cons_succ, List.set_cons_zero]
      have HWF := Lib.hid (RD.out.wf rfl)
      have HNM := Lib.hid RD.out.name
      cases hr : rightB a with
      | false =>
        have HNO := Lib.hid (show ∀ b : At, rightB b = true → b.Wf → b.name = nm → valueL b ≠ s.data.toList from fun b h1 h2 h3 h4 => by rw [← (RD.out.full b h1 h2 h3 h4).2, hr] at h1; cases h1)
        clear hr
        refine wpAnyH_take (i := 5) (v := .bool false) rfl (by kernel_rfl) (by kernel_rfl) (by kernel_rfl) (fun _ _ _ h => h) (Or.inl ⟨by rfl, ?_⟩) hHeld2 ?_
        · intro w hSw
          try dsimp only at hSw
          go_simp
        simp only [Act.put, List.getElem_toArray, List.getElem_cons_succ, List.getElem_cons_zero, List.setIfInBounds_toArray, List.set_cons_succ, List.set_cons_zero]
        have X4 := Lib.hid hHeld2.2.2.2.2.2.2.out.t4
        obtain ⟨u0, u1, u2, u3, u4, u5, hu⟩ := X4.out
        have XU := Lib.hid hu
        have HRS := Lib.hid hHeld2.2.2.2.2.2.2.out
        have HSS := Lib.hid (HST2.out _ hHeld2)
        obtain ⟨d0, d1, d2, d3, d4, d5, df⟩ := cells6 hu
        clear hu
        refine wpAnyH_ready (rs := [6]) (by kernel_rfl) (by simp) ?_
        refine AllReadyH.cons rfl (fun K hK => ?_) AllReadyH.nil
        go_simp
        refine hK.out _ _ HSS.out (fun hHeld3 => ?_)
        clear hK K hHeld2 d0 d1 d2 d3 d4 d5 df
        try simp only [Act.put, List.getElem_toArray, List.getElem_cons_succ, List.getElem_cons_zero, List.setIfInBounds_toArray, List.set_cons_succ, List.set_cons_zero]
        refine wpAnyH_take (i := 7) (v := .bool false) rfl (by kernel_rfl) (by kernel_rfl) (by kernel_rfl) (fun _ _ _ h => h) (Or.inl ⟨by rfl, ?_⟩) hHeld3 ?_
        · intro w hSw
          try dsimp only at hSw
          go_simp
        simp only [Act.put, List.getElem_toArray, List.getElem_cons_succ, List.getElem_cons_zero, List.setIfInBounds_toArray, List.set_cons_succ, List.set_cons_zero]
        refine wpAnyH_done (by kernel_rfl) ?_ _
        clear hHeld3
        go_wp2_with fail
        refine bodyPost_ret (v := .tuple #[.agg #[.string a.name, .int .i64 a.kind, .int .i64 a.num, .string a.text, .slice ai a.ints.length ci, .slice ao a.texts.length ct], .bool false]) (results_cell_tmp Tryz.results34 rfl rfl (attVarA (set6_block XU.out))) rfl ?_
        exact ⟨by rw [← HP0.out]; exact below_set6 HRS.out.below (Nat.le_refl _), .inr ⟨HNO.out, a, ai, ci, ao, ct, rfl⟩⟩
      | true =>
        have HYES := Lib.hid (And.intro hr (RD.out.sound rfl hr))
        clear hr
        refine wpAnyH_take (i := 5) (v := .bool true) rfl (by kernel_rfl) (by kernel_rfl) (by kernel_rfl) (fun _ _ _ h => h) (Or.inl ⟨by rfl, ?_⟩) hHeld2 ?_
        · intro w hSw
          try dsimp only at hSw
          go_simp
        simp only [Act.put, List.getElem_toArray, List.getElem_cons_succ, List.getElem_cons_zero, List.setIfInBounds_toArray, List.set_cons_succ, List.set_cons_zero]
        have X4 := Lib.hid hHeld2.2.2.2.2.2.2.out.t4
        obtain ⟨u0, u1, u2, u3, u4, u5, hu⟩ := X4.out
        have XU := Lib.hid hu
        have HRS := Lib.hid hHeld2.2.2.2.2.2.2.out
        have HSS := Lib.hid (HST2.out _ hHeld2)
        obtain ⟨d0, d1, d2, d3, d4, d5, df⟩ := cells6 hu
        clear hu
        refine wpAnyH_ready (rs := [6]) (by kernel_rfl) (by simp) ?_
        refine AllReadyH.cons rfl (fun K hK => ?_) AllReadyH.nil
        go_simp
        refine hK.out _ _ HSS.out (fun hHeld3 => ?_)
        clear hK K hHeld2 d0 d1 d2 d3 d4 d5 df
        try simp only [Act.put, List.getElem_toArray, List.getElem_cons_succ, List.getElem_cons_zero, List.setIfInBounds_toArray, List.set_cons_succ, List.set_cons_zero]
        refine wpAnyH_take (i := 7) (v := .bool true) rfl (by kernel_rfl) (by kernel_rfl) (by kernel_rfl) (fun _ _ _ h => h) (Or.inl ⟨by rfl, ?_⟩) hHeld3 ?_
        · intro w hSw
          try dsimp only at hSw
          go_simp
        simp only [Act.put, List.getElem_toArray, List.getElem_cons_succ, List.getElem_cons_zero, List.setIfInBounds_toArray, List.set_cons_succ, List.set_cons_zero]
        refine wpAnyH_done (by kernel_rfl) ?_ _
        clear hHeld3
        go_wp2_with fail
        refine bodyPost_ret (v := .tuple #[.agg #[.string a.name, .int .i64 a.kind, .int .i64 a.num, .string a.text, .slice ai a.ints.length ci, .slice ao a.texts.length ct], .bool true]) (results_cell_tmp Tryz.results34 rfl rfl (attVarA (set6_block XU.out))) rfl ?_
        have hss := HSS.out.2.2.2.2.2.2.out
        exact ⟨by rw [← HP0.out]; exact below_set6 HRS.out.below (Nat.le_refl _), .inl ⟨a, _, ai, ci, ao, ct, rfl, ⟨rfl, hss.ints, hss.texts, HIC.out.1, HIC.out.2, HWF.out⟩, HNM.out, HYES.out.1, HYES.out.2, fun x hx => by have := HNI.out x hx; have := HP0.out; omega, fun x hx => by have := HNT.out x hx; have := HP0.out; omega⟩⟩
end Go.Proofs.YtiofnjnaleglgaaGreatDoor
