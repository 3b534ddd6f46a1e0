/-
  Texts of mine in one file: AtOP.
-/
import Derived.Test.YtiofnjnaleglgaaGreatDoorG12
import Derived.Test.YtiofnjnaleglgaaGreatDoorG32
import Derived.Deep.Slices
/-
  What a row gives of an argument that is an attribute, and of one that is a list of them.
-/
namespace Go.Proofs.YtiofnjnaleglgaaGreatDoor
open Go.ChangeShapes Go.WideShapes Go.ChangeAt Go.RowKit
section
variable {H : Type} {enc : TypeId × Value → H} {W : World}

theorem cells_i64 : Tryz.prog.cellsOf 2 = 1 := by kernel_rfl
theorem cells_attr : Tryz.prog.cellsOf 29 = 6 := by kernel_rfl
theorem cells_kind : Tryz.prog.cellsOf 25 = 1 := by kernel_rfl
theorem cells_ints : Tryz.prog.cellsOf 26 = 1 := by kernel_rfl
theorem cells_texts : Tryz.prog.cellsOf 27 = 1 := by kernel_rfl
theorem i64_of_wf {n : Int} (h : (Lit.int .i64 n).wf = true) : i64 n := by
  simp [Lit.wf, IntKind.min, IntKind.max, IntKind.signed, IntKind.bits] at h
  exact h
theorem field_ints {n : Nat} {v : Value} {x : DataW H × List MemPlace} (h : DataW.trod enc Tryz.prog W 0 (fun _ => true) true n 26 [v] = some x) :
    ∃ (ao : Option Addr) (zs : List Int) (c : Nat), v = .slice ao zs.length c ∧ zs.length ≤ c ∧ zs.length ≤ 9223372036854775807 ∧ IntsAt W ao zs ∧ ∀ z ∈ zs, i64 z := by
  rcases open_ints Tryz.underlying26 Tryz.underlying2 cells_i64 h with ⟨hcs, hx⟩ | ⟨a, len, cap, zs, hcs, _, hl, hm, hz, hx, hcell, hw⟩
  · injection hcs with hcs
    exact ⟨none, [], 0, hcs, Nat.le_refl _, Nat.zero_le _, .inl rfl, fun z hz => by cases hz⟩
  · injection hcs with hcs
    simp only [if_true] at hz
    have e : (zs.take len).length = len := by rw [List.length_take]; omega
    refine ⟨some a, zs.take len, cap, by rw [e]; exact hcs, by omega, by unfold maxLen at hm; omega, .inr ⟨a, rfl, fun j hj => ?_⟩, fun z hz => i64_of_wf (hw z (List.mem_of_mem_take hz))⟩
    rw [e] at hj
    rw [hcell j (by omega), List.getElem?_take_of_lt hj, List.getD_eq_getElem?_getD]
theorem field_strs {n : Nat} {v : Value} {x : DataW H × List MemPlace} (h : DataW.trod enc Tryz.prog W 0 (fun _ => true) true n 27 [v] = some x) :
    ∃ (ao : Option Addr) (ss : List ByteArray) (c : Nat), v = .slice ao ss.length c ∧ ss.length ≤ c ∧ ss.length ≤ 9223372036854775807 ∧ StrsAt W ao ss := by
  rcases open_strings Tryz.underlying27 Tryz.underlying9 cells_string h with ⟨hcs, hx⟩ | ⟨a, len, cap, ss, hcs, _, hl, hm, hz, hx, hcell, hw⟩
  · injection hcs with hcs
    exact ⟨none, [], 0, hcs, Nat.le_refl _, Nat.zero_le _, .inl rfl⟩
  · injection hcs with hcs
    simp only [if_true] at hz
    have e : (ss.take len).length = len := by rw [List.length_take]; omega
    refine ⟨some a, ss.take len, cap, by rw [e]; exact hcs, by omega, by unfold maxLen at hm; omega, .inr ⟨a, rfl, fun j hj => ?_⟩⟩
    rw [e] at hj
    rw [hcell j (by omega), List.getElem?_take_of_lt hj, List.getD_eq_getElem?_getD]

set_option maxRecDepth 100000 in
theorem open_attr_cells {n : Nat} {cs : List Value} {x : DataW H × List MemPlace} (h : DataW.trod enc Tryz.prog W 0 (fun _ => true) true n 29 cs = some x) :
    ∃ (a : At) (ai : Option Addr) (ci : Nat) (ao : Option Addr) (ct : Nat), cs = [.string a.name, .int .i64 a.kind, .int .i64 a.num, .string a.text, .slice ai a.ints.length ci, .slice ao a.texts.length ct] ∧ IntsAt W ai a.ints ∧ StrsAt W ao a.texts ∧ a.ints.length ≤ ci ∧ a.texts.length ≤ ct ∧ a.Wf := by
  obtain ⟨xs, m, _, _, hl, hlen, hf⟩ := DataW.trod_struct Tryz.underlying29 h
  rw [cells_attr] at hl
  have hxs : xs.length = 6 := hlen
  obtain ⟨c0, c1, c2, c3, c4, c5, rfl⟩ : ∃ c0 c1 c2 c3 c4 c5, cs = [c0, c1, c2, c3, c4, c5] := by
    match cs, hl with
    | [c0, c1, c2, c3, c4, c5], _ => exact ⟨c0, c1, c2, c3, c4, c5, rfl⟩
  have g0 : DataW.trod enc Tryz.prog W 0 (fun _ => true) true m 9 (([c0, c1, c2, c3, c4, c5].drop 0).take (Tryz.prog.cellsOf 9)) = xs[0]? := hf 0 _ rfl
  have g1 : DataW.trod enc Tryz.prog W 0 (fun _ => true) true m 25 (([c0, c1, c2, c3, c4, c5].drop 1).take (Tryz.prog.cellsOf 25)) = xs[1]? := hf 1 _ rfl
  have g2 : DataW.trod enc Tryz.prog W 0 (fun _ => true) true m 2 (([c0, c1, c2, c3, c4, c5].drop 2).take (Tryz.prog.cellsOf 2)) = xs[2]? := hf 2 _ rfl
  have g3 : DataW.trod enc Tryz.prog W 0 (fun _ => true) true m 9 (([c0, c1, c2, c3, c4, c5].drop 3).take (Tryz.prog.cellsOf 9)) = xs[3]? := hf 3 _ rfl
  have g4 : DataW.trod enc Tryz.prog W 0 (fun _ => true) true m 26 (([c0, c1, c2, c3, c4, c5].drop 4).take (Tryz.prog.cellsOf 26)) = xs[4]? := hf 4 _ rfl
  have g5 : DataW.trod enc Tryz.prog W 0 (fun _ => true) true m 27 (([c0, c1, c2, c3, c4, c5].drop 5).take (Tryz.prog.cellsOf 27)) = xs[5]? := hf 5 _ rfl
  rw [cells_string, List.getElem?_eq_getElem (by omega)] at g0 g3
  rw [cells_kind, List.getElem?_eq_getElem (by omega)] at g1
  rw [cells_i64, List.getElem?_eq_getElem (by omega)] at g2
  rw [cells_ints, List.getElem?_eq_getElem (by omega)] at g4
  rw [cells_texts, List.getElem?_eq_getElem (by omega)] at g5
  obtain ⟨nm, e0, _, _⟩ := DataW.trod_string Tryz.underlying9 g0
  obtain ⟨k, e1, _, w1⟩ := DataW.trod_int Tryz.underlying25 g1
  obtain ⟨z, e2, _, w2⟩ := DataW.trod_int Tryz.underlying2 g2
  obtain ⟨t, e3, _, _⟩ := DataW.trod_string Tryz.underlying9 g3
  obtain ⟨ai, zs, ci, e4, hci, hn4, hz, hw⟩ := field_ints g4
  obtain ⟨ao, ss, ct, e5, hct, hn5, hs⟩ := field_strs g5
  obtain rfl : c0 = .string nm := by injection e0
  obtain rfl : c1 = .int .i64 k := by injection e1
  obtain rfl : c2 = .int .i64 z := by injection e2
  obtain rfl : c3 = .string t := by injection e3
  subst e4 e5
  exact ⟨⟨nm, k, z, t, zs, ss⟩, ai, ci, ao, ct, rfl, hz, hs, hci, hct, ⟨i64_of_wf w1, i64_of_wf w2, hw, hn4, hn5⟩⟩

theorem addr_add0 (a : Addr) : a.add 0 = a := by unfold Addr.add; simp
set_option maxRecDepth 100000 in
theorem open_attr {base : Nat} {v : Value} {d : DataW H} {p : List MemPlace} (hval : Value.okWide Tryz.prog W .any base 29 v) (h : DataW.Trod enc Tryz.prog W 0 (fun _ => true) true 29 v d p) :
    ∃ (a : At) (ai : Option Addr) (ci : Nat) (ao : Option Addr) (ct : Nat), AttAt W a v ai ci ao ct := by
  obtain ⟨cs, rfl, _⟩ := okWide_struct Tryz.underlying29 hval
  obtain ⟨fuel, h⟩ := h
  obtain ⟨a, ai, ci, ao, ct, hcs, h1, h2, h3, h4, h5⟩ := open_attr_cells h
  refine ⟨a, ai, ci, ao, ct, ⟨?_, h1, h2, h3, h4, h5⟩⟩
  have : cs = #[.string a.name, .int .i64 a.kind, .int .i64 a.num, .string a.text, .slice ai a.ints.length ci, .slice ao a.texts.length ct] := by
    apply Array.toList_inj.1
    exact hcs
  rw [this]

set_option maxRecDepth 100000 in
theorem open_attrl {base : Nat} {v : Value} {d : DataW H} {p : List MemPlace} (hval : Value.okWide Tryz.prog W .any base 22 v) (h : DataW.Trod enc Tryz.prog W 0 (fun _ => true) true 22 v d p) :
    ∃ (so : Option Addr) (l : List At) (c : Nat), v = .slice so l.length c ∧ l.length ≤ c ∧ c ≤ 9223372036854775807 ∧ ListAt W so l := by
  obtain ⟨a0, n, c, rfl⟩ := Go.WideShapes.okWide_slice Tryz.underlying22 hval
  obtain ⟨fuel, h⟩ := h
  rcases Go.Deep.open_slice Tryz.underlying22 h with ⟨hcs, _⟩ | ⟨a, len, cap, m, k, D, Pl, hcs, _, hl, hm, hmm, _, hx⟩
  · simp [Value.cells] at hcs
    obtain ⟨rfl, rfl, rfl⟩ := hcs
    exact ⟨none, [], 0, rfl, Nat.le_refl _, Nat.zero_le _, .inl rfl⟩
  · simp [Value.cells] at hcs
    obtain ⟨h1, h2, h3⟩ := hcs
    subst h1 h2 h3
    simp only [if_true] at hmm
    rw [cells_attr] at hx
    have hc63 : c ≤ 9223372036854775807 := by unfold maxLen at hm; omega
    by_cases hn : n = 0
    · subst hn
      exact ⟨some a, [], c, rfl, Nat.zero_le _, hc63, .inl rfl⟩
    have hsp : a.spot = none := by
      obtain ⟨cs0, hc0, ht0⟩ := hx 0 (by omega)
      obtain ⟨x, ai, ci, ao, ct, rfl, _⟩ := open_attr_cells ht0
      obtain ⟨_, _, hcell⟩ := World.cells?_some hc0
      have h0 : W.cell? ((a.add (0 * 6)).add 0) = some (.string x.name) := hcell 0 (by decide)
      rw [Nat.zero_mul, addr_add0, addr_add0] at h0
      exact World.cell?_spot h0
    have each : ∀ i, ∃ x : At, i < n → ∃ ai ci ao ct, ElAt W a.block (a.off + i * 6) x ai ci ao ct := fun i => by
      by_cases hi : i < n
      · obtain ⟨cs', hc, ht⟩ := hx i (by omega)
        obtain ⟨x, ai, ci, ao, ct, rfl, h1, h2, h3, h4, h5⟩ := open_attr_cells ht
        obtain ⟨_, _, hcell⟩ := World.cells?_some hc
        have hadd : ∀ j, (a.add (i * 6)).add j = ⟨a.block, a.off + i * 6 + j, none⟩ := fun j => by
          obtain ⟨ab, ao', asp⟩ := a
          dsimp only at hsp
          subst hsp
          unfold Addr.add
          split <;> split <;> simp_all [Nat.add_assoc]
        have hcl : ∀ j v, j < 6 → [Value.string x.name, .int .i64 x.kind, .int .i64 x.num, .string x.text, .slice ai x.ints.length ci, .slice ao x.texts.length ct][j]? = some v → W.cell? ⟨a.block, a.off + i * 6 + j, none⟩ = some v := fun j v hj hv => by
          rw [← hadd j, hcell j hj, hv]
        exact ⟨x, fun _ => ⟨ai, ci, ao, ct, ⟨hcl 0 _ (by decide) rfl, hcl 1 _ (by decide) rfl, hcl 2 _ (by decide) rfl, hcl 3 _ (by decide) rfl, hcl 4 _ (by decide) rfl, hcl 5 _ (by decide) rfl, h1, h2, h3, h4, h5⟩⟩⟩
      · exact ⟨At.zero, fun h => absurd h hi⟩
    obtain ⟨f, hf⟩ := Classical.axiomOfChoice each
    have e : ((List.range n).map f).length = n := by simp
    refine ⟨some a, (List.range n).map f, c, by rw [e], by omega, hc63, .inr ⟨a.block, a.off, ?_, fun j hj => ?_⟩⟩
    · obtain ⟨ab, ao', asp⟩ := a
      dsimp only at hsp
      rw [hsp]
    · rw [e] at hj
      obtain ⟨ai, ci, ao, ct, h⟩ := hf j hj
      rw [nth_get (by rw [e]; exact hj), List.getElem_map, List.getElem_range]
      exact ⟨ai, ci, ao, ct, h⟩
end
end Go.Proofs.YtiofnjnaleglgaaGreatDoor

