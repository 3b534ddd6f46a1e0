/-
  Texts of mine in one file: L, N, O.
-/
import Derived.Test.YtiofnjnaleglgaaGreatDoorG09
import Derived.Test.YtiofnjnaleglgaaGreatDoorG03
import Derived.RangeFuncNested
import Derived.RangeFuncBound
import Derived.RangeFuncCalls
import Derived.RangeFuncLeaves
import Derived.RangeFuncBox
import Derived.Shelf.Abstract
import Derived.Shelf.RegionOpen
import Derived.OwnWalkIn
import Derived.TacticsInMore
import Derived.LoopNIn
import Derived.LoopIn
import Derived.Test.YtiofnjnaleglgaaGreatDoorG06
import Derived.Test.YtiofnjnaleglgaaGreatDoorG08
/-
  The iterator over the extents, by its contract; 'strconv.Itoa' as the string's maker needs it.
-/
namespace Go.Proofs.YtiofnjnaleglgaaGreatDoor
open Go.RowKit Go.Shelf
attribute [local go_sem] Oper.semAt_some

theorem nDigits_le {u : Nat} (h : u < 10000) : Lib.nDigits u ≤ 4 := by
  by_cases h1 : u < 10
  · rw [Lib.nDigits_small h1]; omega
  rw [Lib.nDigits_big h1]
  by_cases h2 : u / 10 < 10
  · rw [Lib.nDigits_small h2]; omega
  rw [Lib.nDigits_big h2]
  by_cases h3 : u / 10 / 10 < 10
  · rw [Lib.nDigits_small h3]; omega
  rw [Lib.nDigits_big h3, Lib.nDigits_small (by omega)]
  omega
theorem itoa_len {x : Int} (h : 0 ≤ x ∧ x ≤ 1000) : (Lib.itoa x).length ≤ 4 := by
  rw [Lib.itoa, if_neg (by omega), Lib.decDigits_length]
  exact nDigits_le (by omega)

theorem grow_keeps (w : World) (k : Nat) (os : Array Obj) : Below w.heap.size w (Go.Sort.grow (w.drewN k) os) ∧ KeepsOthers w (Go.Sort.grow (w.drewN k) os) := by
  have h : ∀ i, i < w.heap.size → (Go.Sort.grow (w.drewN k) os).heap[i]? = w.heap[i]? := fun i hi => by
    show (w.heap ++ os)[i]? = _
    rw [Array.getElem?_append, if_pos hi]
  have hs : w.heap.size ≤ (Go.Sort.grow (w.drewN k) os).heap.size := by
    show _ ≤ (w.heap ++ os).size
    simp
  exact ⟨⟨rfl, rfl, rfl, hs, h⟩, ⟨hs, fun i o ho _ => (h i (lt_of_block ho)).trans ho⟩⟩

theorem itoa_any (x : Int) (hx : 0 ≤ x ∧ x ≤ 1000) (w : World) (hE : Env w) :
    Calls Tryz.prog 175 #[.int .i64 x] w fun e w' => e = .returned (.string ⟨(Lib.itoa x).toArray⟩) ∧ Below w.heap.size w w' ∧ KeepsOthers w w' :=
  (Tryz.strconv_Itoa x (by omega) (by omega) w hE.pow).mono fun e w' ⟨he, k, os, hw⟩ => ⟨he, by subst hw; exact grow_keeps w k os⟩

/-- An extent. -/
abbrev Ext := { x : Int // 0 ≤ x ∧ x ≤ 1000 }

/-- The first n of three extents. -/
def exts (n : Nat) (x0 x1 x2 : Ext) : List Ext := [x0, x1, x2].take n

end Go.Proofs.YtiofnjnaleglgaaGreatDoor

/-
  The string of a memory or array type, by the contract of 'text'.
-/
namespace Go.Proofs.YtiofnjnaleglgaaGreatDoor
open Go.RowKit Go.Shelf
attribute [local go_sem] Oper.semAt_some

def extBytes (pre : List Ext) : List UInt8 := pre.flatMap fun x => Lib.itoa x.1 ++ [120]
theorem extBytes_snoc (pre : List Ext) (x : Ext) : extBytes (pre ++ [x]) = extBytes pre ++ (Lib.itoa x.1 ++ [120]) := by simp [extBytes]
theorem extBytes_len : ∀ pre : List Ext, (extBytes pre).length ≤ 5 * pre.length
  | [] => by simp [extBytes]
  | x :: pre => by
    have := extBytes_len pre
    have := itoa_len x.2
    simp only [extBytes, List.flatMap_cons, List.length_append, List.length_cons, List.length_nil] at *
    omega
def textHead (k : Int) : List UInt8 := if k = 2 then [109, 101, 109, 60] else [97, 114, 114, 60]
/-- The string of a memory (2) or array type. -/
def textSpec (k : Int) (r : Nat) (x0 x1 x2 : Ext) (el : List UInt8) : List UInt8 := textHead k ++ extBytes (exts r x0 x1 x2) ++ el ++ [62]

/-- What 'text' holds between two steps: the builder has taken l; the type lies in its block. -/
structure Txt (w : World) (D : Array Value) (l : List UInt8) (W : World) : Prop where
  bld : Lib.IsBuilder 116 5 (w.heap.size + 1) (w.heap.size + 1) (Lib.byteCells l) W
  dsc : W.heap[w.heap.size]? = some (.cells D 165 (0, 0))
  below : Below w.heap.size w W
  lt : w.heap.size + 1 < W.heap.size

theorem builder_lt {B b : Nat} {bs : List Value} {w : World} (h : Lib.IsBuilder 116 5 B b bs w) : b < w.heap.size := by
  rcases h with h | h <;> exact h.lt

theorem Txt.str {w W : World} {D : Array Value} {l : List UInt8} (h : Txt w D l W) (s : ByteArray) (hs : l.length + s.size ≤ 140737488355328) :
    Calls Tryz.prog 77 #[.pointer (some ⟨w.heap.size + 1, 0, none⟩), .string s] W fun e W' => e = .returned (.tuple #[.int .i64 s.size, .nilIface]) ∧ Txt w D (l ++ s.data.toList) W' ∧ Below (w.heap.size + 1) W W' ∧ KeepsOthers W W' ∧ KeepD W W' :=
  (writeString_any _ _ _ s W h.bld (by rw [Lib.byteCells_length]; exact hs) (by have := h.lt; omega)).mono fun e W' ⟨he, hb, hbl, hko, hkd⟩ =>
    ⟨he, ⟨.inr (by rw [Lib.byteCells_append]; exact hb), (hbl.block _ (by omega)).trans h.dsc, h.below.trans (hbl.mono (by omega)), by have := h.lt; have := hbl.size; omega⟩, hbl, hko, hkd⟩
theorem Txt.byte {w W : World} {D : Array Value} {l : List UInt8} (h : Txt w D l W) (c : UInt8) (n : Int) (hc : n = (c.toNat : Int)) (hs : l.length + 1 ≤ 140737488355328) :
    Calls Tryz.prog 139 #[.pointer (some ⟨w.heap.size + 1, 0, none⟩), .int .u8 n] W fun e W' => e = .returned .nilIface ∧ Txt w D (l ++ [c]) W' ∧ Below (w.heap.size + 1) W W' ∧ KeepsOthers W W' ∧ KeepD W W' :=
  (writeByte_any _ _ _ n W h.bld (by rw [Lib.byteCells_length]; exact hs) (by have := h.lt; omega)).mono fun e W' ⟨he, hb, hbl, hko, hkd⟩ =>
    ⟨he, ⟨.inr (by rw [Lib.byteCells_append]; subst hc; exact hb), (hbl.block _ (by omega)).trans h.dsc, h.below.trans (hbl.mono (by omega)), by have := h.lt; have := hbl.size; omega⟩, hbl, hko, hkd⟩
theorem Txt.other {w W W' : World} {D : Array Value} {l : List UInt8} (h : Txt w D l W) (hb : Below W.heap.size W W') : Txt w D l W' := by
  have hl := h.lt
  have hown : ∀ {p : Value}, Lib.BuilderAt 116 5 (w.heap.size + 1) (w.heap.size + 1) p (Lib.byteCells l) W → Lib.BuilderAt 116 5 (w.heap.size + 1) (w.heap.size + 1) p (Lib.byteCells l) W' := by
    rintro p ⟨hB, v, hv, ho, hne⟩
    refine ⟨hB, v, (hb.block _ hl).trans hv, ?_, hne⟩
    refine ho.kept (row := none) ⟨hb.os, hb.tape, hb.output, hb.size, fun k hk _ => hb.block k hk⟩ ?_
    cases hv' : v.ownBlock <;> simp
  exact ⟨h.bld.elim (fun h => .inl (hown h)) (fun h => .inr (hown h)), (hb.block _ (by omega)).trans h.dsc, h.below.trans (hb.mono h.below.size), by have := hb.size; omega⟩

theorem txt_own (w : World) (D : Array Value) (f : List Ext → List UInt8) (B : Nat) (hB : w.heap.size ≤ B) : OwnFrom B (fun (pre : List Ext) W => Txt w D (f pre) W) := by
  intro s X Y row h hg hr
  have ncell : ∀ {k : Nat} {cs : Array Value} {t : TypeId} {fr : Nat × Nat}, X.heap[k]? = some (.cells cs t fr) → some k ≠ row := by
    intro k cs t fr hk e
    obtain ⟨_, o, ho, hc⟩ := hr k e.symm
    rw [hk] at ho
    cases ho
    cases hc
  have hown : ∀ {p : Value}, Lib.BuilderAt 116 5 (w.heap.size + 1) (w.heap.size + 1) p (Lib.byteCells (f s)) X → Lib.BuilderAt 116 5 (w.heap.size + 1) (w.heap.size + 1) p (Lib.byteCells (f s)) Y := by
    rintro p ⟨hB, v, hv, ho, hne⟩
    refine ⟨hB, v, (hg.block _ h.lt (ncell hv)).trans hv, ho.kept hg ?_, hne⟩
    rcases ho.2 with ⟨rfl, _⟩ | ⟨g, cap, cur, rfl, _, hh, _⟩
    · exact .inl rfl
    · exact .inr (ncell hh)
  exact ⟨h.bld.elim (fun h => .inl (hown h)) (fun h => .inr (hown h)), (hg.block _ (by have := h.lt; omega) (ncell h.dsc)).trans h.dsc, h.below.grown hg h.below.size (fun k e => Nat.le_trans hB (hr k e).1), by have := h.lt; have := hg.size; omega⟩

theorem Txt.out {w W : World} {D : Array Value} {l : List UInt8} (h : Txt w D l W) :
    Calls Tryz.prog 78 #[.pointer (some ⟨w.heap.size + 1, 0, none⟩)] W fun e W' => e = .returned (.string ⟨l.toArray⟩) ∧ Below (w.heap.size + 1) W W' ∧ ∀ (k : Nat) (o : Obj), W.heap[k]? = some o → o.isCells = false → W'.heap[k]? = some o :=
  (Tryz.Builder_String_any_k _ _ l W (Lib.IsBuilderF.of h.bld) (by have := h.lt; omega)).mono fun e W' ⟨he, _, hb, hk⟩ =>
    ⟨he, hb, fun k o ho hc => hk k o ho (fun e => by
      obtain ⟨p, hp⟩ : ∃ p v, W.heap[w.heap.size + 1]? = some (.cells #[p, v] 116 (0, 0)) := by
        rcases h.bld with ⟨_, v, hv, _⟩ | ⟨_, v, hv, _⟩
        · exact ⟨_, v, hv⟩
        · exact ⟨_, v, hv⟩
      obtain ⟨v, hv⟩ := hp
      obtain rfl : k = w.heap.size + 1 := Option.some.inj e
      rw [ho] at hv
      cases hv
      cases hc) (fun c fz e => by subst e; cases hc)⟩

theorem str_end {x y : List UInt8} {w W' : World} (h : x = y) (hb : Below w.heap.size w W') : Ending.returned (.string ⟨x.toArray⟩) = .returned (.string ⟨y.toArray⟩) ∧ Below w.heap.size w W' := ⟨by rw [h], hb⟩

end Go.Proofs.YtiofnjnaleglgaaGreatDoor

/-
  'Turned' by contracts.
-/
namespace Go.Proofs.YtiofnjnaleglgaaGreatDoor
open Go.RowKit
section
variable {s el : ByteArray} {k b e0 e1 e2 : Int} {r : Nat}

end
end Go.Proofs.YtiofnjnaleglgaaGreatDoor

