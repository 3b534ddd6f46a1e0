/-
  Texts of mine in one file: P, R.
-/
import Derived.Test.YtiofnjnaleglgaaGreatDoorG08
import Derived.Test.YtiofnjnaleglgaaGreatDoorG10
import Derived.Laws.CopyOwn
/-
  'Make' by contracts.
-/
namespace Go.Proofs.YtiofnjnaleglgaaGreatDoor
open Go.RowKit

/-- A slice that came in holds these numbers. -/
def IntsAt (w : World) (ao : Option Addr) (zs : List Int) : Prop := zs = [] ∨ ∃ a, ao = some a ∧ ∀ j, j < zs.length → w.cell? (a.add j) = some (.int .i64 (zs[j]?.getD 0))
theorem IntsAt.below {w w' : World} {ao : Option Addr} {zs : List Int} (h : IntsAt w ao zs) (hb : Below w.heap.size w w') : IntsAt w' ao zs := by
  rcases h with h | ⟨a, rfl, hc⟩
  · exact .inl h
  · refine .inr ⟨a, rfl, fun j hj => ?_⟩
    have := hc j hj
    exact (hb.cell (block_lt_of_cell this)).trans this

/-- The numbers of a slice of at most three extents. -/
def ext3 (n : Nat) (z0 z1 z2 : Ext) : List Int := [z0.1, z1.1, z2.1].take n

/-- What 'Make' answers for right extents. -/
def makeRest (k : Int) (n : Nat) (z0 z1 z2 : Ext) (el : List UInt8) : Int × List UInt8 :=
  if numB el = false then (10, []) else if 4096 < prodN n z0.1 z1.1 z2.1 then (2, []) else (0, textSpec k n z0 z1 z2 el)

theorem numB_len {l : List UInt8} (h : numB l = true) : l.length ≤ 60 := by
  unfold numB at h; simp at h; omega
theorem pair_end {x : List UInt8} {i : Int} {w w' : World} {p : Int × List UInt8} (h : p = (i, x)) (hb : Below w.heap.size w w') :
    Ending.returned (.tuple #[.string ⟨x.toArray⟩, .int .i64 i]) = .returned (.tuple #[.string ⟨p.2.toArray⟩, .int .i64 p.1]) ∧ Below w.heap.size w w' := by subst h; exact ⟨rfl, hb⟩

theorem copy_run {w : World} {S : Nat} {v0 v1 v2 v3 v4 v5 v6 : Value} (hS : w.heap[S]? = some (.cells #[v0, v1, v2, v3, v4, v5, v6] 165 (0, 0))) {cs : List Value} (hm : cs.length ≤ 3) (h1 : ∀ v ∈ cs, v.oneCell' = true) {ao : Option Addr} {c : Nat}
    (hsrc : 0 < cs.length → ∃ ad, ao = some ad ∧ ∀ j v, cs[j]? = some v → w.cell? (ad.add j) = some v) :
    ∃ w5, (Builtin.copy_ #[100, 100] 3 #[.slice (some ⟨S, 3, none⟩) 3 3, .slice ao cs.length c]).run Tryz.prog w = .ok (.int .i64 cs.length) w5 ∧
      w5.heap[S]? = some (.cells (splice [v0, v1, v2, v3, v4, v5, v6] 3 cs).toArray 165 (0, 0)) ∧ Below S w w5 := by
  have hsz : (Tryz.prog.info? 3).map (·.size) = some 1 := by kernel_rfl
  by_cases h0 : cs.length = 0
  · obtain rfl : cs = [] := List.eq_nil_of_length_eq_zero h0
    exact ⟨w, run_copy_none w _ _ _ 3 _ _ _ _ _ _ Tryz.underlying100 hsz rfl, by rw [hS]; rfl, Below.refl _ _⟩
  · obtain ⟨ad, rfl, hsrc'⟩ := hsrc (by omega)
    have hrun := run_copy_row (P := Tryz.prog) w 100 100 3 3 S 3 3 3 ad cs.length c _ _ cs Tryz.underlying100 hsz hS (by rw [show Nat.min cs.length 3 = cs.length from Nat.min_eq_left hm]) hsrc' (by simp; omega) h1
    refine ⟨_, hrun, ?_, ?_⟩
    · rw [setRow_heap w S _ _ _ _ hS]
      rcases (show cs.length = 1 ∨ cs.length = 2 ∨ cs.length = 3 by omega) with h | h | h <;> simp [splice, h]
    · exact below_setRow (Below.refl _ _) (Nat.le_refl _) _

theorem ext_cells {w : World} {ao : Option Addr} {n : Nat} {z0 z1 z2 : Ext} (h : IntsAt w ao (ext3 n z0 z1 z2)) :
    0 < ((ext3 n z0 z1 z2).map (Value.int .i64)).length → ∃ ad, ao = some ad ∧ ∀ j v, ((ext3 n z0 z1 z2).map (Value.int .i64))[j]? = some v → w.cell? (ad.add j) = some v := by
  intro hp
  rcases h with h | ⟨a, ha, hc⟩
  · rw [h] at hp; simp at hp
  · refine ⟨a, ha, fun j v hv => ?_⟩
    rw [List.getElem?_map] at hv
    cases hx : (ext3 n z0 z1 z2)[j]? with
    | none => rw [hx] at hv; cases hv
    | some x =>
      rw [hx] at hv
      have hj : j < (ext3 n z0 z1 z2).length := by
        rcases Nat.lt_or_ge j (ext3 n z0 z1 z2).length with h | h
        · exact h
        · rw [List.getElem?_eq_none h] at hx; cases hx
      have := hc j hj
      rw [hx] at this
      cases hv
      exact this

end Go.Proofs.YtiofnjnaleglgaaGreatDoor

/-
  'awake', which every law calls: it answers true in whatever world holds the library's variables.
-/
namespace Go.Proofs.YtiofnjnaleglgaaGreatDoor
open Go.RowKit

theorem ty_mk {s : ByteArray} {k b e0 e1 e2 : Int} {r : Nat} {el : ByteArray} (h : descSpec s.data.toList = ⟨k, b, r, e0, e1, e2, el.data.toList⟩) (hn : ¬ (k = 0 ∧ b = 0)) : Ty s k b r e0 e1 e2 el := ⟨h, hn⟩
theorem ty_arr : Ty ⟨#[97, 114, 114, 60, 48, 120, 105, 110, 100, 101, 120, 62]⟩ 3 0 1 0 0 0 ⟨#[105, 110, 100, 101, 120]⟩ := ty_mk (by kernel_rfl) (by omega)
theorem ty_mem : Ty ⟨#[109, 101, 109, 60, 52, 120, 51, 120, 105, 51, 50, 62]⟩ 2 0 2 4 3 0 ⟨#[105, 51, 50]⟩ := ty_mk (by kernel_rfl) (by omega)
theorem ty_i8 : Ty ⟨#[105, 56]⟩ 0 (8 : Nat) 0 0 0 0 ⟨#[]⟩ := ty_mk (by kernel_rfl) (by omega)
theorem ty_i1 : Ty ⟨#[105, 49]⟩ 0 (1 : Nat) 0 0 0 0 ⟨#[]⟩ := ty_mk (by kernel_rfl) (by omega)
theorem ty_m8 : Ty ⟨#[109, 101, 109, 60, 105, 56, 62]⟩ 2 0 0 0 0 0 ⟨#[105, 56]⟩ := ty_mk (by kernel_rfl) (by omega)
theorem ty_calc : Ty ⟨#[33, 99, 97, 108, 99, 46, 110, 117, 109]⟩ 4 0 0 0 0 0 ⟨#[]⟩ := ty_mk (by kernel_rfl) (by omega)
theorem no_i01 : NoTy ⟨#[105, 48, 49]⟩ := show descSpec [105, 48, 49] = descZero by kernel_rfl
theorem no_big : NoTy ⟨#[109, 101, 109, 60, 49, 48, 48, 120, 49, 48, 48, 120, 105, 56, 62]⟩ := show descSpec [109, 101, 109, 60, 49, 48, 48, 120, 49, 48, 48, 120, 105, 56, 62] = descZero by kernel_rfl
theorem no_gap : NoTy ⟨#[97, 114, 114, 60, 105, 56, 32, 62]⟩ := show descSpec [97, 114, 114, 60, 105, 56, 32, 62] = descZero by kernel_rfl
theorem split_in : splitInner [40, 105, 49, 44, 32, 105, 110, 100, 101, 120, 41] = some [105, 49, 44, 32, 105, 110, 100, 101, 120] := by kernel_rfl
theorem split_parts : splitParts [105, 49, 44, 32, 105, 110, 100, 101, 120] = [⟨#[105, 49]⟩, ⟨#[105, 110, 100, 101, 120]⟩] := by kernel_rfl
theorem parts_ok : partsOk [105, 49, 44, 32, 105, 110, 100, 101, 120] = true := by kernel_rfl
theorem num32 : numB [105, 51, 50] = true := by kernel_rfl
theorem make_spec : makeRest 2 2 ⟨4, by omega⟩ ⟨3, by omega⟩ ⟨0, by omega⟩ [105, 51, 50] = (0, [109, 101, 109, 60, 52, 120, 51, 120, 105, 51, 50, 62]) := by
  rw [makeRest, if_neg (by rw [num32]; simp), if_neg (by simp [prodN])]
  simp [textSpec, textHead, exts, extBytes, Lib.itoa, Lib.decDigits_one]
theorem turned_spec : textSpec 3 0 ⟨0, by omega⟩ ⟨0, by omega⟩ ⟨0, by omega⟩ [105, 56] = [97, 114, 114, 60, 105, 56, 62] := by kernel_rfl
theorem addr_zero (a : Addr) : a.add 0 = a := by unfold Addr.add; simp
theorem prod_12 : prodN 2 4 3 0 = 12 := by decide
theorem sw_200 : sw 8 200 = -56 := by decide
theorem un_56 : (-56 : Int) % 2 ^ 8 = 200 := by decide

end Go.Proofs.YtiofnjnaleglgaaGreatDoor

