/-
  'Make' by contracts.
-/
import Derived.Test.YtjkhjflemcljdaaGreatDoorJ
import Derived.Test.YtjkhjflemcljdaaGreatDoorN
import Derived.Laws.CopyOwn
namespace Go.Proofs.YtjkhjflemcljdaaGreatDoor
open Go.RowKit

set_option maxHeartbeats 400000 in
set_option maxRecDepth 100000 in
theorem Make_kind (k : Int) (hk : ¬ (k = 2 ∨ k = 3)) (ao : Option Addr) (n c : Nat) (el : ByteArray) (w : World) :
    Calls Tryz.prog 25 #[.int .i64 k, .slice ao n c, .string el] w fun e w' => e = .returned (.tuple #[.string ⟨#[]⟩, .int .i64 1]) ∧ Below w.heap.size w w' := by
  have hk2 : (k == 2 || k == 3) = false := by simpa using hk
  clear hk
  go_enter Tryz.func25, Tryz.ntmps25
  go_wp2_with fail
  refine (isShaped_any _ _ _ _ _ _ _ _).mono ?_
  rintro e w2 ⟨rfl, hw2⟩
  have HB2 : Hid (Below w.heap.size w w2) := by rw [← hw2]; exact ((Below.refl _ _).alloc (Nat.le_refl _) _).alloc (by simp) _
  clear hw2
  rw [hk2]
  go_wp2_with fail
  go_ret2
  exact ⟨rfl, HB2.out⟩

set_option maxHeartbeats 400000 in
set_option maxRecDepth 100000 in
theorem Make_long (k : Int) (hk : k = 2 ∨ k = 3) (ao : Option Addr) (n c : Nat) (hn : 3 < n) (el : ByteArray) (w : World) :
    Calls Tryz.prog 25 #[.int .i64 k, .slice ao n c, .string el] w fun e w' => e = .returned (.tuple #[.string ⟨#[]⟩, .int .i64 1]) ∧ Below w.heap.size w w' := by
  have hk2 : (k == 2 || k == 3) = true := by simpa using hk
  clear hk
  go_enter Tryz.func25, Tryz.ntmps25
  go_wp2_with fail
  refine (isShaped_any _ _ _ _ _ _ _ _).mono ?_
  rintro e w2 ⟨rfl, hw2⟩
  have HB2 : Hid (Below w.heap.size w w2) := by rw [← hw2]; exact ((Below.refl _ _).alloc (Nat.le_refl _) _).alloc (by simp) _
  clear hw2
  rw [hk2]
  go_wp2_with fail
  go_ret2
  exact ⟨rfl, HB2.out⟩

/-- A slice that came in holds these numbers. -/
def IntsAt (w : World) (ao : Option Addr) (zs : List Int) : Prop := zs = [] ∨ ∃ a, ao = some a ∧ ∀ j, j < zs.length → w.cell? (a.add j) = some (.int .i64 (zs[j]?.getD 0))
theorem IntsAt.below {w w' : World} {ao : Option Addr} {zs : List Int} (h : IntsAt w ao zs) (hb : Below w.heap.size w w') : IntsAt w' ao zs := by
  rcases h with h | ⟨a, rfl, hc⟩
  · exact .inl h
  · refine .inr ⟨a, rfl, fun j hj => ?_⟩
    have := hc j hj
    exact (hb.cell (block_lt_of_cell this)).trans this

set_option maxHeartbeats 400000 in
set_option maxRecDepth 100000 in
theorem Make_range (k : Int) (hk : k = 2 ∨ k = 3) (ao : Option Addr) (zs : List Int) (c : Nat) (hn : zs.length ≤ 3) (hbad : ∃ j, j < zs.length ∧ ¬ (0 ≤ zs[j]?.getD 0 ∧ zs[j]?.getD 0 ≤ 1000)) (el : ByteArray) (w : World) (hz : IntsAt w ao zs) :
    Calls Tryz.prog 25 #[.int .i64 k, .slice ao zs.length c, .string el] w fun e w' => e = .returned (.tuple #[.string ⟨#[]⟩, .int .i64 1]) ∧ Below w.heap.size w w' := by
  have hk2 : (k == 2 || k == 3) = true := by simpa using hk
  have Hbad := Lib.hid hbad
  have Hz := Lib.hid hz
  clear hk hbad hz
  go_enter Tryz.func25, Tryz.ntmps25
  go_wp2_with fail
  refine (isShaped_any _ _ _ _ _ _ _ _).mono ?_
  rintro e w2 ⟨rfl, hw2⟩
  have HB2 : Hid (Below w.heap.size w w2) := by rw [← hw2]; exact ((Below.refl _ _).alloc (Nat.le_refl _) _).alloc (by simp) _
  clear hw2
  rw [hk2]
  rcases Hz.out.below HB2.out with h0 | ⟨a, rfl, hc⟩
  · obtain ⟨j, hj, _⟩ := Hbad.out
    rw [h0] at hj
    exact absurd hj (Nat.not_lt_zero _)
  have Hc := Lib.hid hc
  clear hc
  go_wp2_with fail
  go_loop [24] (fun i => ∃ m : Nat, m ≤ zs.length ∧ i = .int .i64 m ∧ Hid (∀ j, j < m → (0 ≤ zs[j]?.getD 0 ∧ zs[j]?.getD 0 ≤ 1000))) (fun i => zs.length - (intOf i).toNat)
  case atStart => exact ⟨0, Nat.zero_le _, rfl, fun j hj => absurd hj (Nat.not_lt_zero _)⟩
  case round =>
    obtain ⟨m, hm, rfl, hall⟩ := hrel
    by_cases hlt : m < zs.length
    · have hcm := Hc.out m hlt
      obtain ⟨z, hz⟩ : ∃ z, z = zs[m]?.getD 0 := ⟨_, rfl⟩
      rw [← hz] at hcm
      have HZ := Lib.hid hz
      clear hz
      by_cases h1 : z < 0
      · go_wp2_with fail
        go_ret2
        exact ⟨rfl, HB2.out⟩
      by_cases h2 : 1000 < z
      · go_wp2_with fail
        go_ret2
        exact ⟨rfl, HB2.out⟩
      go_wp2_with fail
      go_round
      case rel => exact ⟨m + 1, by omega, by go_num, fun j hj => (Nat.lt_succ_iff_lt_or_eq.1 hj).elim (hall.out j) (fun e => by subst e; rw [← HZ.out]; omega)⟩
      case measure => simp [intOf]; omega
    · obtain ⟨j, hj, hb⟩ := Hbad.out
      exact absurd (hall.out j (by omega)) hb

/-- The numbers of a slice of at most three extents. -/
def ext3 (n : Nat) (z0 z1 z2 : Ext) : List Int := [z0.1, z1.1, z2.1].take n

/-- What 'Make' answers for right extents. -/
def makeRest (k : Int) (n : Nat) (z0 z1 z2 : Ext) (el : List UInt8) : Int × List UInt8 :=
  if numB el = false then (10, []) else if 4096 < prodN n z0.1 z1.1 z2.1 then (2, []) else (0, textSpec k n z0 z1 z2 el)

theorem numB_len {l : List UInt8} (h : numB l = true) : l.length ≤ 60 := by
  unfold numB at h; simp at h; omega
theorem pair_end {x : List UInt8} {i : Int} {w w' : World} {p : Int × List UInt8} (h : p = (i, x)) (hb : Below w.heap.size w w') :
    Ending.returned (.tuple #[.string ⟨x.toArray⟩, .int .i64 i]) = .returned (.tuple #[.string ⟨p.2.toArray⟩, .int .i64 p.1]) ∧ Below w.heap.size w w' := by subst h; exact ⟨rfl, hb⟩

theorem copy_run {w : World} {S : Nat} {v0 v1 v2 v3 v4 v5 v6 : Value} (hS : w.heap[S]? = some (.cells #[v0, v1, v2, v3, v4, v5, v6] 76 (0, 0))) {cs : List Value} (hm : cs.length ≤ 3) (h1 : ∀ v ∈ cs, v.oneCell' = true) {ao : Option Addr} {c : Nat}
    (hsrc : 0 < cs.length → ∃ ad, ao = some ad ∧ ∀ j v, cs[j]? = some v → w.cell? (ad.add j) = some v) :
    ∃ w5, (Builtin.copy_ #[22, 22] 3 #[.slice (some ⟨S, 3, none⟩) 3 3, .slice ao cs.length c]).run Tryz.prog w = .ok (.int .i64 cs.length) w5 ∧
      w5.heap[S]? = some (.cells (splice [v0, v1, v2, v3, v4, v5, v6] 3 cs).toArray 76 (0, 0)) ∧ Below S w w5 := by
  have hsz : (Tryz.prog.info? 3).map (·.size) = some 1 := by kernel_rfl
  by_cases h0 : cs.length = 0
  · obtain rfl : cs = [] := List.eq_nil_of_length_eq_zero h0
    exact ⟨w, run_copy_none w _ _ _ 3 _ _ _ _ _ _ Tryz.underlying22 hsz rfl, by rw [hS]; rfl, Below.refl _ _⟩
  · obtain ⟨ad, rfl, hsrc'⟩ := hsrc (by omega)
    have hrun := run_copy_row (P := Tryz.prog) w 22 22 3 3 S 3 3 3 ad cs.length c _ _ cs Tryz.underlying22 hsz hS (by rw [show Nat.min cs.length 3 = cs.length from Nat.min_eq_left hm]) hsrc' (by simp; omega) h1
    refine ⟨_, hrun, ?_, ?_⟩
    · rw [setRow_heap w S _ _ _ _ hS]
      rcases (show cs.length = 1 ∨ cs.length = 2 ∨ cs.length = 3 by omega) with h | h | h <;> simp [splice, h]
    · exact below_setRow (Below.refl _ _) (Nat.le_refl _) _

theorem ext_cells {w : World} {ao : Option Addr} {n : Nat} {z0 z1 z2 : Ext} (h : IntsAt w ao (ext3 n z0 z1 z2)) :
    0 < ((ext3 n z0 z1 z2).map (Value.int .i64)).length → ∃ ad, ao = some ad ∧ ∀ j v, ((ext3 n z0 z1 z2).map (Value.int .i64))[j]? = some v → w.cell? (ad.add j) = some v := by
  intro hp
  rcases h with h | ⟨a, ha, hc⟩
  · rw [h] at hp; simp at hp
  · refine ⟨a, ha, fun j v hv => ?_⟩
    rw [List.getElem?_map] at hv
    cases hx : (ext3 n z0 z1 z2)[j]? with
    | none => rw [hx] at hv; cases hv
    | some x =>
      rw [hx] at hv
      have hj : j < (ext3 n z0 z1 z2).length := by
        rcases Nat.lt_or_ge j (ext3 n z0 z1 z2).length with h | h
        · exact h
        · rw [List.getElem?_eq_none h] at hx; cases hx
      have := hc j hj
      rw [hx] at this
      cases hv
      exact this

set_option maxHeartbeats 1000000 in
set_option maxRecDepth 100000 in
theorem Make_rest (w : World) (k : Int) (hk : k = 2 ∨ k = 3) (ao : Option Addr) (n c : Nat) (hn : n ≤ 3) (z0 z1 z2 : Ext) (hz : IntsAt w ao (ext3 n z0 z1 z2)) (h0 : n < 1 → z0.1 = 0) (h1 : n < 2 → z1.1 = 0) (h2 : n < 3 → z2.1 = 0) (el : ByteArray) (hE : Env w) :
    Calls Tryz.prog 25 #[.int .i64 k, .slice ao n c, .string el] w fun e w' =>
      e = .returned (.tuple #[.string ⟨(makeRest k n z0 z1 z2 el.data.toList).2.toArray⟩, .int .i64 (makeRest k n z0 z1 z2 el.data.toList).1]) ∧ Below w.heap.size w w' := by
  have hk2 : (k == 2 || k == 3) = true := by simpa using hk
  have Hk := Lib.hid hk
  have Hz := Lib.hid hz
  have HE := Lib.hid hE
  have H0 := Lib.hid (And.intro h0 (And.intro h1 h2))
  clear hk hz hE h0 h1 h2
  go_enter Tryz.func25, Tryz.ntmps25
  go_wp2_with fail
  refine (isShaped_any _ _ _ _ _ _ _ _).mono ?_
  rintro e w2 ⟨rfl, hw2⟩
  have HB2 : Hid (Below w.heap.size w w2) := by rw [← hw2]; exact ((Below.refl _ _).alloc (Nat.le_refl _) _).alloc (by simp) _
  have Hs2 : Hid (w2.heap[w.heap.size]? = some (.cells #[.int .i64 k, .int .i64 0, .int .i64 0, .int .i64 0, .int .i64 0, .int .i64 0, .string el] 76 (0, 0))) := by
    rw [← hw2]; exact (Below.heap_alloc _ _ _ (by simp)).trans (heap_alloc_new _ _)
  clear hw2
  rw [hk2]
  have hz2 := Lib.hid (Hz.out.below HB2.out)
  have hcx : ∀ m, m < n → Hid (∃ a, ao = some a ∧ w2.cell? (a.add m) = some (.int .i64 ((ext3 n z0 z1 z2)[m]?.getD 0))) := by
    intro m hm
    have hl : (ext3 n z0 z1 z2).length = n := by simp [ext3]; omega
    rcases hz2.out with h | ⟨a, ha, hc⟩
    · rw [h] at hl; simp at hl; omega
    · exact ⟨a, ha, hc m (by omega)⟩
  have Hcx := Lib.hid hcx
  clear hcx
  go_wp2_with fail
  go_loop [24] (fun i => ∃ m : Nat, m ≤ n ∧ i = .int .i64 m) (fun i => n - (intOf i).toNat)
  case atStart => exact ⟨0, Nat.zero_le _, rfl⟩
  case round =>
    obtain ⟨m, hm, rfl⟩ := hrel
    by_cases hlt : m < n
    · obtain ⟨a, rfl, hc⟩ := (Hcx.out m hlt).out
      obtain ⟨z, hzz, hz0, hz1⟩ : ∃ z, z = (ext3 n z0 z1 z2)[m]?.getD 0 ∧ 0 ≤ z ∧ z ≤ 1000 := by
        refine ⟨_, rfl, ?_⟩
        have a0 := z0.2; have a1 := z1.2; have a2 := z2.2
        rcases (show m = 0 ∨ m = 1 ∨ m = 2 by omega) with rfl | rfl | rfl
        · simp [ext3, hlt]; omega
        · simp [ext3, hlt]; omega
        · simp [ext3, hlt]; omega
      rw [← hzz] at hc
      clear hzz
      go_wp2_with fail
      go_round
      case rel => exact ⟨m + 1, by omega, by go_num⟩
      case measure => simp [intOf]; omega
    · obtain rfl : m = n := by omega
      go_wp2_with fail
      refine (read_any el _ (HE.out.below HB2.out)).mono ?_
      rintro e w3 ⟨k', b', r', y0, y1, y2, el', rfl, hd, hb3⟩
      have HB3 := Lib.hid (HB2.out.trans (hb3.mono HB2.out.size))
      have Hs3 := Lib.hid ((hb3.block _ (lt_of_block Hs2.out)).trans Hs2.out)
      have Hnum := Lib.hid (desc_num hd)
      have hz3 := Lib.hid (hz2.out.below hb3)
      clear hb3 hd
      go_wp2_with fail
      refine (isNumber_any _ _ _ _ _ _ _ _).mono ?_
      rintro e w4 ⟨rfl, hw4⟩
      have hb4 : Below w3.heap.size w3 w4 := by rw [← hw4]; exact (Below.refl _ _).alloc (Nat.le_refl _) _
      have HB4 := Lib.hid (HB3.out.trans (hb4.mono HB3.out.size))
      have Hs4 := Lib.hid ((hb4.block _ (lt_of_block Hs3.out)).trans Hs3.out)
      have hz4 := Lib.hid (hz3.out.below hb4)
      clear hw4 hb4
      have hpos : decide (0 < b') = true ∨ decide (0 < b') = false := by cases decide (0 < b') <;> simp
      rcases hpos with hpos | hpos
      · have hnb := Lib.hid (Hnum.out.trans hpos)
        have Ht4 := Lib.hid (ext_cells hz4.out)
        obtain ⟨hz0, hz1, hz2'⟩ := H0.out
        rcases (show m = 0 ∨ m = 1 ∨ m = 2 ∨ m = 3 by omega) with rfl | rfl | rfl | rfl
        · have hsp : Hid (∀ w5 : World, w5.heap[w.heap.size]? = some (.cells (splice [.int .i64 k, .int .i64 0, .int .i64 0, .int .i64 0, .int .i64 0, .int .i64 0, .string el] 3 []).toArray 76 (0, 0)) →
              w5.heap[w.heap.size]? = some (.cells #[.int .i64 k, .int .i64 0, .int .i64 0, .int .i64 z0.1, .int .i64 z1.1, .int .i64 z2.1, .string el] 76 (0, 0))) := fun w5 h => by
            rw [h]; simp [splice, hz0 (by omega), hz1 (by omega), hz2' (by omega)]
          clear hz0 hz1 hz2'
          obtain ⟨w5, hcp, hs5, hb5⟩ := copy_run (cs := []) (ao := ao) (c := c) Hs4.out (by simp) (by intro v hv; simp at hv; done) Ht4.out
          have Hs5 := Lib.hid (hsp.out _ hs5)
          have HB5 := Lib.hid (HB4.out.trans hb5)
          have hcp' : (Builtin.copy_ #[22, 22] 3 #[.slice (some ⟨w.heap.size, 3, none⟩) 3 3, .slice ao 0 c]).run Tryz.prog w4 = .ok (.int .i64 0) w5 := hcp
          clear hcp
          clear hs5 hb5
          obtain ⟨c0, c1, c2, c3, c4, c5, c6, hfz⟩ := cells7 Hs5.out
          go_wp2_with fail
          refine (cells_any _ _ _ _ _ 0 el (by omega) z0.2 z1.2 z2.2 _).mono ?_
          rintro e w6 ⟨rfl, hw6⟩
          have HB6 : Hid (Below w.heap.size w w6) := by rw [← hw6]; exact (HB5.out.setCell (p := ⟨w.heap.size, 2, none⟩) (Nat.le_refl _) _).alloc (by rw [setCell_size]; exact HB5.out.size) _
          have Hs6 : Hid (w6.heap[w.heap.size]? = some (.cells #[.int .i64 k, .int .i64 0, .int .i64 0, .int .i64 z0.1, .int .i64 z1.1, .int .i64 z2.1, .string el] 76 (0, 0))) := by
            have hs := heap_setCell_same _ _ 2 _ _ (.int .i64 0) Hs5.out
            rw [← hw6]
            exact (Below.heap_alloc _ _ _ (lt_of_block hs)).trans hs
          clear hw6 c0 c1 c2 c3 c4 c5 c6 hfz hcp'
          obtain ⟨c0, c1, c2, c3, c4, c5, c6, hfz⟩ := cells7 Hs6.out
          have hcl : decide (4096 < prodN 0 z0.1 z1.1 z2.1) = true ∨ decide (4096 < prodN 0 z0.1 z1.1 z2.1) = false := by cases decide (4096 < prodN 0 z0.1 z1.1 z2.1) <;> simp
          rcases hcl with hcl | hcl
          · have hf := Lib.hid (show makeRest k 0 z0 z1 z2 el.data.toList = (2, []) by rw [makeRest, if_neg (by rw [hnb.out]; simp), if_pos (of_decide_eq_true hcl)])
            go_wp2_with fail
            go_ret2
            exact pair_end hf.out HB6.out
          · have hf := Lib.hid (show makeRest k 0 z0 z1 z2 el.data.toList = (0, textSpec k 0 z0 z1 z2 el.data.toList) by rw [makeRest, if_neg (by rw [hnb.out]; simp), if_neg (of_decide_eq_false hcl)])
            go_wp2_with fail
            refine (text_any k 0 Hk.out 0 (by omega) z0 z1 z2 el (by have := numB_len hnb.out; rw [size_eq]; omega) _ (HE.out.below HB6.out)).mono ?_
            rintro e w7 ⟨rfl, hb7⟩
            have HB7 := Lib.hid (HB6.out.trans (hb7.mono HB6.out.size))
            clear hb7
            go_wp2_with fail
            go_ret2
            exact pair_end hf.out HB7.out
        · have hsp : Hid (∀ w5 : World, w5.heap[w.heap.size]? = some (.cells (splice [.int .i64 k, .int .i64 0, .int .i64 0, .int .i64 0, .int .i64 0, .int .i64 0, .string el] 3 [.int .i64 z0.1]).toArray 76 (0, 0)) →
              w5.heap[w.heap.size]? = some (.cells #[.int .i64 k, .int .i64 0, .int .i64 0, .int .i64 z0.1, .int .i64 z1.1, .int .i64 z2.1, .string el] 76 (0, 0))) := fun w5 h => by
            rw [h]; simp [splice, hz1 (by omega), hz2' (by omega)]
          clear hz0 hz1 hz2'
          obtain ⟨w5, hcp, hs5, hb5⟩ := copy_run (cs := [.int .i64 z0.1]) (ao := ao) (c := c) Hs4.out (by simp) (by intro v hv; simp at hv; subst hv; rfl) Ht4.out
          have Hs5 := Lib.hid (hsp.out _ hs5)
          have HB5 := Lib.hid (HB4.out.trans hb5)
          have hcp' : (Builtin.copy_ #[22, 22] 3 #[.slice (some ⟨w.heap.size, 3, none⟩) 3 3, .slice ao 1 c]).run Tryz.prog w4 = .ok (.int .i64 1) w5 := hcp
          clear hcp
          clear hs5 hb5
          obtain ⟨c0, c1, c2, c3, c4, c5, c6, hfz⟩ := cells7 Hs5.out
          go_wp2_with fail
          refine (cells_any _ _ _ _ _ 1 el (by omega) z0.2 z1.2 z2.2 _).mono ?_
          rintro e w6 ⟨rfl, hw6⟩
          have HB6 : Hid (Below w.heap.size w w6) := by rw [← hw6]; exact (HB5.out.setCell (p := ⟨w.heap.size, 2, none⟩) (Nat.le_refl _) _).alloc (by rw [setCell_size]; exact HB5.out.size) _
          have Hs6 : Hid (w6.heap[w.heap.size]? = some (.cells #[.int .i64 k, .int .i64 0, .int .i64 1, .int .i64 z0.1, .int .i64 z1.1, .int .i64 z2.1, .string el] 76 (0, 0))) := by
            have hs := heap_setCell_same _ _ 2 _ _ (.int .i64 1) Hs5.out
            rw [← hw6]
            exact (Below.heap_alloc _ _ _ (lt_of_block hs)).trans hs
          clear hw6 c0 c1 c2 c3 c4 c5 c6 hfz hcp'
          obtain ⟨c0, c1, c2, c3, c4, c5, c6, hfz⟩ := cells7 Hs6.out
          have hcl : decide (4096 < prodN 1 z0.1 z1.1 z2.1) = true ∨ decide (4096 < prodN 1 z0.1 z1.1 z2.1) = false := by cases decide (4096 < prodN 1 z0.1 z1.1 z2.1) <;> simp
          rcases hcl with hcl | hcl
          · have hf := Lib.hid (show makeRest k 1 z0 z1 z2 el.data.toList = (2, []) by rw [makeRest, if_neg (by rw [hnb.out]; simp), if_pos (of_decide_eq_true hcl)])
            go_wp2_with fail
            go_ret2
            exact pair_end hf.out HB6.out
          · have hf := Lib.hid (show makeRest k 1 z0 z1 z2 el.data.toList = (0, textSpec k 1 z0 z1 z2 el.data.toList) by rw [makeRest, if_neg (by rw [hnb.out]; simp), if_neg (of_decide_eq_false hcl)])
            go_wp2_with fail
            refine (text_any k 0 Hk.out 1 (by omega) z0 z1 z2 el (by have := numB_len hnb.out; rw [size_eq]; omega) _ (HE.out.below HB6.out)).mono ?_
            rintro e w7 ⟨rfl, hb7⟩
            have HB7 := Lib.hid (HB6.out.trans (hb7.mono HB6.out.size))
            clear hb7
            go_wp2_with fail
            go_ret2
            exact pair_end hf.out HB7.out
        · have hsp : Hid (∀ w5 : World, w5.heap[w.heap.size]? = some (.cells (splice [.int .i64 k, .int .i64 0, .int .i64 0, .int .i64 0, .int .i64 0, .int .i64 0, .string el] 3 [.int .i64 z0.1, .int .i64 z1.1]).toArray 76 (0, 0)) →
              w5.heap[w.heap.size]? = some (.cells #[.int .i64 k, .int .i64 0, .int .i64 0, .int .i64 z0.1, .int .i64 z1.1, .int .i64 z2.1, .string el] 76 (0, 0))) := fun w5 h => by
            rw [h]; simp [splice, hz2' (by omega)]
          clear hz0 hz1 hz2'
          obtain ⟨w5, hcp, hs5, hb5⟩ := copy_run (cs := [.int .i64 z0.1, .int .i64 z1.1]) (ao := ao) (c := c) Hs4.out (by simp) (by intro v hv; simp at hv; rcases hv with rfl | rfl <;> rfl) Ht4.out
          have Hs5 := Lib.hid (hsp.out _ hs5)
          have HB5 := Lib.hid (HB4.out.trans hb5)
          have hcp' : (Builtin.copy_ #[22, 22] 3 #[.slice (some ⟨w.heap.size, 3, none⟩) 3 3, .slice ao 2 c]).run Tryz.prog w4 = .ok (.int .i64 2) w5 := hcp
          clear hcp
          clear hs5 hb5
          obtain ⟨c0, c1, c2, c3, c4, c5, c6, hfz⟩ := cells7 Hs5.out
          go_wp2_with fail
          refine (cells_any _ _ _ _ _ 2 el (by omega) z0.2 z1.2 z2.2 _).mono ?_
          rintro e w6 ⟨rfl, hw6⟩
          have HB6 : Hid (Below w.heap.size w w6) := by rw [← hw6]; exact (HB5.out.setCell (p := ⟨w.heap.size, 2, none⟩) (Nat.le_refl _) _).alloc (by rw [setCell_size]; exact HB5.out.size) _
          have Hs6 : Hid (w6.heap[w.heap.size]? = some (.cells #[.int .i64 k, .int .i64 0, .int .i64 2, .int .i64 z0.1, .int .i64 z1.1, .int .i64 z2.1, .string el] 76 (0, 0))) := by
            have hs := heap_setCell_same _ _ 2 _ _ (.int .i64 2) Hs5.out
            rw [← hw6]
            exact (Below.heap_alloc _ _ _ (lt_of_block hs)).trans hs
          clear hw6 c0 c1 c2 c3 c4 c5 c6 hfz hcp'
          obtain ⟨c0, c1, c2, c3, c4, c5, c6, hfz⟩ := cells7 Hs6.out
          have hcl : decide (4096 < prodN 2 z0.1 z1.1 z2.1) = true ∨ decide (4096 < prodN 2 z0.1 z1.1 z2.1) = false := by cases decide (4096 < prodN 2 z0.1 z1.1 z2.1) <;> simp
          rcases hcl with hcl | hcl
          · have hf := Lib.hid (show makeRest k 2 z0 z1 z2 el.data.toList = (2, []) by rw [makeRest, if_neg (by rw [hnb.out]; simp), if_pos (of_decide_eq_true hcl)])
            go_wp2_with fail
            go_ret2
            exact pair_end hf.out HB6.out
          · have hf := Lib.hid (show makeRest k 2 z0 z1 z2 el.data.toList = (0, textSpec k 2 z0 z1 z2 el.data.toList) by rw [makeRest, if_neg (by rw [hnb.out]; simp), if_neg (of_decide_eq_false hcl)])
            go_wp2_with fail
            refine (text_any k 0 Hk.out 2 (by omega) z0 z1 z2 el (by have := numB_len hnb.out; rw [size_eq]; omega) _ (HE.out.below HB6.out)).mono ?_
            rintro e w7 ⟨rfl, hb7⟩
            have HB7 := Lib.hid (HB6.out.trans (hb7.mono HB6.out.size))
            clear hb7
            go_wp2_with fail
            go_ret2
            exact pair_end hf.out HB7.out
        · have hsp : Hid (∀ w5 : World, w5.heap[w.heap.size]? = some (.cells (splice [.int .i64 k, .int .i64 0, .int .i64 0, .int .i64 0, .int .i64 0, .int .i64 0, .string el] 3 [.int .i64 z0.1, .int .i64 z1.1, .int .i64 z2.1]).toArray 76 (0, 0)) →
              w5.heap[w.heap.size]? = some (.cells #[.int .i64 k, .int .i64 0, .int .i64 0, .int .i64 z0.1, .int .i64 z1.1, .int .i64 z2.1, .string el] 76 (0, 0))) := fun w5 h => by
            rw [h]; simp [splice]
          clear hz0 hz1 hz2'
          obtain ⟨w5, hcp, hs5, hb5⟩ := copy_run (cs := [.int .i64 z0.1, .int .i64 z1.1, .int .i64 z2.1]) (ao := ao) (c := c) Hs4.out (by simp) (by intro v hv; simp at hv; rcases hv with rfl | rfl | rfl <;> rfl) Ht4.out
          have Hs5 := Lib.hid (hsp.out _ hs5)
          have HB5 := Lib.hid (HB4.out.trans hb5)
          have hcp' : (Builtin.copy_ #[22, 22] 3 #[.slice (some ⟨w.heap.size, 3, none⟩) 3 3, .slice ao 3 c]).run Tryz.prog w4 = .ok (.int .i64 3) w5 := hcp
          clear hcp
          clear hs5 hb5
          obtain ⟨c0, c1, c2, c3, c4, c5, c6, hfz⟩ := cells7 Hs5.out
          go_wp2_with fail
          refine (cells_any _ _ _ _ _ 3 el (by omega) z0.2 z1.2 z2.2 _).mono ?_
          rintro e w6 ⟨rfl, hw6⟩
          have HB6 : Hid (Below w.heap.size w w6) := by rw [← hw6]; exact (HB5.out.setCell (p := ⟨w.heap.size, 2, none⟩) (Nat.le_refl _) _).alloc (by rw [setCell_size]; exact HB5.out.size) _
          have Hs6 : Hid (w6.heap[w.heap.size]? = some (.cells #[.int .i64 k, .int .i64 0, .int .i64 3, .int .i64 z0.1, .int .i64 z1.1, .int .i64 z2.1, .string el] 76 (0, 0))) := by
            have hs := heap_setCell_same _ _ 2 _ _ (.int .i64 3) Hs5.out
            rw [← hw6]
            exact (Below.heap_alloc _ _ _ (lt_of_block hs)).trans hs
          clear hw6 c0 c1 c2 c3 c4 c5 c6 hfz hcp'
          obtain ⟨c0, c1, c2, c3, c4, c5, c6, hfz⟩ := cells7 Hs6.out
          have hcl : decide (4096 < prodN 3 z0.1 z1.1 z2.1) = true ∨ decide (4096 < prodN 3 z0.1 z1.1 z2.1) = false := by cases decide (4096 < prodN 3 z0.1 z1.1 z2.1) <;> simp
          rcases hcl with hcl | hcl
          · have hf := Lib.hid (show makeRest k 3 z0 z1 z2 el.data.toList = (2, []) by rw [makeRest, if_neg (by rw [hnb.out]; simp), if_pos (of_decide_eq_true hcl)])
            go_wp2_with fail
            go_ret2
            exact pair_end hf.out HB6.out
          · have hf := Lib.hid (show makeRest k 3 z0 z1 z2 el.data.toList = (0, textSpec k 3 z0 z1 z2 el.data.toList) by rw [makeRest, if_neg (by rw [hnb.out]; simp), if_neg (of_decide_eq_false hcl)])
            go_wp2_with fail
            refine (text_any k 0 Hk.out 3 (by omega) z0 z1 z2 el (by have := numB_len hnb.out; rw [size_eq]; omega) _ (HE.out.below HB6.out)).mono ?_
            rintro e w7 ⟨rfl, hb7⟩
            have HB7 := Lib.hid (HB6.out.trans (hb7.mono HB6.out.size))
            clear hb7
            go_wp2_with fail
            go_ret2
            exact pair_end hf.out HB7.out
      · have hf := Lib.hid (show makeRest k m z0 z1 z2 el.data.toList = (10, []) by rw [makeRest, if_pos (Hnum.out.trans hpos)])
        go_wp2_with fail
        go_ret2
        exact pair_end hf.out HB4.out
end Go.Proofs.YtjkhjflemcljdaaGreatDoor
