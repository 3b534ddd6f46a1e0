/-
  Texts of mine in one file: AtLI.
-/
import Derived.Test.YtiofnjnaleglgaaGreatDoorG26
/-
  A strings.Builder beside attributes: what it writes leaves them.
-/
namespace Go.Proofs.YtiofnjnaleglgaaGreatDoor
open Go.RowKit

/-- Whatever block holds attributes lies as it lay. -/
def KeepA (w w' : World) : Prop := ∀ (k : Nat) (cs : Array Value) (fr : Nat × Nat), w.heap[k]? = some (.cells cs 29 fr) → w'.heap[k]? = some (.cells cs 29 fr)
theorem KeepA.refl (w : World) : KeepA w w := fun _ _ _ h => h
theorem KeepA.trans {a b c : World} (h : KeepA a b) (k : KeepA b c) : KeepA a c := fun i cs fr hi => k i cs fr (h i cs fr hi)
theorem KeepA.below {B : Nat} {w w' : World} (h : Below B w w') (hB : w.heap.size ≤ B) : KeepA w w' := fun k _ _ hk => (h.block k (Nat.lt_of_lt_of_le (lt_of_block hk) hB)).trans hk
theorem KeepA.setCell {w : World} {a : Addr} {u : Value} {cs : Array Value} {t : TypeId} {fr : Nat × Nat} (h : w.heap[a.block]? = some (.cells cs t fr)) (ht : t ≠ 29) : KeepA w (w.setCell a u) := fun k _ _ hk => by
  rw [heap_setCell_other _ _ _ _ (fun e => by subst e; rw [hk] at h; cases h; exact ht rfl)]; exact hk
theorem KeepA.grown {w w' : World} {row : Option Nat} (hg : w.grownBy w' row) (h : ∀ j cs t fr, row = some j → w.heap[j]? = some (.cells cs t fr) → t ≠ 29) : KeepA w w' := fun k cs fr hk =>
  (hg.block k (lt_of_block hk) (fun e => h k cs _ fr e.symm hk rfl)).trans hk
theorem KeepA.alloc (w : World) (o : Obj) : KeepA w (w.alloc o) := fun _ _ _ hk => (Below.heap_alloc _ _ _ (lt_of_block hk)).trans hk
theorem KeepA.putObj (W : World) (l : Nat) (o o' : Obj) (hl : W.heap[l]? = some o) (ho : o.isCells = false) : KeepA W (W.putObj l o') := fun k _ _ hk =>
  ((grownBy_putObj' W l o').block k (lt_of_block hk) (fun e => by cases e; rw [hk] at hl; cases hl; cases ho)).trans hk

theorem copyCheck_attr (B b : Nat) (bs : List Value) (w : World) (h : Lib.IsBuilder 116 5 B b bs w) :
    Calls Tryz.prog 111 #[.pointer (some ⟨b, 0, none⟩)] w fun e w' => e = .returned (.tuple #[]) ∧ (Lib.BuilderAt 116 5 B b (.pointer (some ⟨b, 0, none⟩)) bs w' ∧ Below B w w' ∧ KeepsOthers w w' ∧ KeepA w w') := by
  rcases h with h | h
  · refine (copyCheck_fresh b w h.cell0 h.shape h.frozen0).mono ?_
    rintro e w' ⟨rfl, rfl⟩
    exact ⟨rfl, h.used _, (Below.refl B w).setCell (p := ⟨b, 0, none⟩) h.1 _, KeepsOthers.setCell _ _ _, by obtain ⟨_, v, hb, _⟩ := h; exact KeepA.setCell hb (by decide)⟩
  · refine (copyCheck_used b w h.cell0).mono ?_
    rintro e w' ⟨rfl, rfl⟩
    exact ⟨rfl, h, Below.refl B _, KeepsOthers.refl _, KeepA.refl _⟩

theorem own_typeA {w : World} {B : Nat} {n : Nat} {v : Value} {bs : List Value} (h : w.ownsRow B 5 1 v n bs) : ∀ j cs t fr, v.ownBlock = some j → w.heap[j]? = some (.cells cs t fr) → t ≠ 29 := by
  intro j cs t fr hj ho
  rcases h.2 with ⟨rfl, _⟩ | ⟨g, cap, cur, rfl, _, hh, _⟩
  · cases hj
  · have : g = j := by simpa [Value.ownBlock] using hj
    subst this
    rw [hh] at ho
    cases ho
    decide

set_option maxHeartbeats 2000000 in
set_option maxRecDepth 100000 in
theorem writeString_attr (B b : Nat) (bs : List Value) (s : ByteArray) (w : World) (h : Lib.IsBuilder 116 5 B b bs w) (hlen : bs.length + s.size ≤ 140737488355328) (hBw : B ≤ w.heap.size) :
    Calls Tryz.prog 77 #[.pointer (some ⟨b, 0, none⟩), .string s] w fun e w' => e = .returned (.tuple #[.int .i64 s.size, .nilIface]) ∧ (Lib.BuilderAt 116 5 B b (.pointer (some ⟨b, 0, none⟩)) (bs ++ Lib.strCells s) w' ∧ Below B w w' ∧ KeepsOthers w w' ∧ KeepA w w') := by
  obtain ⟨i0, hi, hz0, hz1, hz2⟩ := info_parts infoByte
  go_enter Tryz.func77, Tryz.ntmps77
  go_wp2_with fail
  refine (copyCheck_attr B b bs _ h).mono ?_
  rintro e w1 ⟨rfl, h1, hb1, hko1, hkd1⟩
  have HK1 := Lib.hid hko1
  have HD1 := Lib.hid hkd1
  clear hko1 hkd1
  obtain ⟨hB, v, hbk, hown, hne⟩ := h1
  have c0 : w1.cell? ⟨b, 0, none⟩ = some (.pointer (some ⟨b, 0, none⟩)) := by rw [Lib.cell_of_heap hbk]; rfl
  have c1 : w1.cell? ⟨b, 1, none⟩ = some v := by rw [Lib.cell_of_heap hbk]; rfl
  go_wp2_with (at_builtin; refine Lib.wpList_append_own_string _ rfl _ _ 56 9 rfl B 5 i0 Tryz.underlying56 Tryz.underlying9 hi hz0 hz1 hz2 _ _ _ rfl hown s rfl ?c3 ?c4 ?c5 ?_)
  case c3 => unfold maxLen; omega
  case c4 => omega
  case c5 => have := hb1.size; omega
  intro v' w2 hown' hgrow _
  have hlt : b < w1.heap.size := lt_of_block hbk
  have hb2 : w2.heap[b]? = some (.cells #[.pointer (some ⟨b, 0, none⟩), v] 116 (0, 0)) := by
    rw [hgrow.block b hlt (fun e => hne e.symm)]
    exact hbk
  have d0 : w2.cell? ⟨b, 0, none⟩ = some (.pointer (some ⟨b, 0, none⟩)) := by rw [Lib.cell_of_heap hb2]; rfl
  have d1 : w2.cell? ⟨b, 1, none⟩ = some v := by rw [Lib.cell_of_heap hb2]; rfl
  have f1 : w2.frozen? ⟨b, 1, none⟩ = false := Lib.frozen_of_heap hb2 1
  obtain ⟨ao, n', cap, rfl⟩ : ∃ ao n' cap, v' = .slice ao n' cap := by
    rcases hown'.2 with ⟨hv, _⟩ | ⟨g, cap, cur, hv, _⟩
    · exact ⟨_, _, _, hv⟩
    · exact ⟨_, _, _, hv⟩
  go_wp2
  go_ret2
  refine ⟨rfl, ?_, ?_, ?_, ?_⟩
  · exact Lib.BuilderAt.put (T := 116) (e := 5) hB hb2 (bs' := bs ++ Lib.strCells s) (by simpa [Lib.strCells_length] using hown') (by decide)
  · exact (hb1.grown hgrow (by have := hb1.size; omega) (fun k hk => (hown.lt k hk).1)).setCell (p := ⟨b, 1, none⟩) hB _
  · exact (HK1.out.trans (KeepsOthers.of_grownBy hgrow (own_cells hown))).trans (KeepsOthers.setCell _ _ _)
  · exact (HD1.out.trans (KeepA.grown hgrow (own_typeA hown))).trans (KeepA.setCell hb2 (by decide))

theorem Bld.strA {w W : World} {b : Nat} {l : List UInt8} (h : Bld w b l W) (s : ByteArray) (hs : l.length + s.size ≤ 140737488355328) :
    Calls Tryz.prog 77 #[.pointer (some ⟨b, 0, none⟩), .string s] W fun e W' => e = .returned (.tuple #[.int .i64 s.size, .nilIface]) ∧ Bld w b (l ++ s.data.toList) W' ∧ Below b W W' ∧ KeepA W W' :=
  (writeString_attr _ _ _ s W h.bld (by rw [Lib.byteCells_length]; exact hs) (Nat.le_of_lt h.lt)).mono fun e W' ⟨he, hb, hbl, _, hka⟩ =>
    ⟨he, ⟨.inr (by rw [Lib.byteCells_append]; exact hb), h.le, h.below.trans (hbl.mono h.le), by have := h.lt; have := hbl.size; omega⟩, hbl, hka⟩
end Go.Proofs.YtiofnjnaleglgaaGreatDoor

