/-
  The law 'TypesJoins': it answers true, whatever list its argument is.
-/
import Derived.Test.YtjkhjflemcljdaaGreatDoorJA
namespace Go.Proofs.YtjkhjflemcljdaaGreatDoor
open Go.RowKit

/-- The error that the law wants of the types so far. -/
def wantOf (ss : List ByteArray) : Int := if ss.all (fun s => isTy s.data.toList) then 0 else 10
theorem want_step {ss : List ByteArray} {m : Nat} (hm : m < ss.length) {b : Bool} (hb : isTy (ss[m]?.getD ByteArray.empty).data.toList = b) : wantOf (ss.take (m + 1)) = if b then wantOf (ss.take m) else 10 := by
  rw [wantOf, take_str hm, List.all_append, List.all_cons, List.all_nil, Bool.and_true, hb]
  cases b <;> simp [wantOf]

def JoinPost (j : List UInt8) (n : Int) (w : World) (e : Ending) (w' : World) : Prop := e = .returned (.tuple #[.string ⟨j.toArray⟩, .int .i64 n]) ∧ Below w.heap.size w w'
/-- What the program's 'Join' answers, and what the law wants of it. -/
theorem Join_says (ao : Option Addr) (ss : List ByteArray) (c : Nat) (hcap : ss.length ≤ c) (hn : ss.length ≤ 9223372036854775807) : ∃ (j : List UInt8) (n : Int),
    (∀ w, StrsAt w ao ss → Env w → Calls Tryz.prog 38 #[.slice ao ss.length c] w (JoinPost j n w)) ∧
    ((j = [] ∧ n = 10 ∧ wantOf ss = 10) ∨ (j = [] ∧ n = 2 ∧ wantOf ss = 0 ∧ 100 < ss.length) ∨ (j = joinR (ss.map (·.data.toList)) ∧ n = 0 ∧ wantOf ss = 0 ∧ ss.length ≤ 100 ∧ ss.all (fun s => isTy s.data.toList) = true)) := by
  cases hall : ss.all (fun s => isTy s.data.toList)
  · exact ⟨[], 10, fun w hz hE => Join_no ao ss c hn hall w hz hE, .inl ⟨rfl, rfl, by rw [wantOf, hall]; rfl⟩⟩
  · by_cases h : 100 < ss.length
    · exact ⟨[], 2, fun w hz hE => Join_long ao ss c hn hall h w hz hE, .inr (.inl ⟨rfl, rfl, by rw [wantOf, hall]; rfl, h⟩)⟩
    · exact ⟨_, 0, fun w hz hE => Join_yes ao ss c hcap hall (by omega) w hz hE, .inr (.inr ⟨rfl, rfl, by rw [wantOf, hall]; rfl, by omega, rfl⟩)⟩

/-- So many times the type i8. -/
def many (n : Nat) : List ByteArray := List.replicate n ⟨#[105, 56]⟩
theorem many_len (n : Nat) : (many n).length = n := List.length_replicate
theorem ty_i8' : isTy [105, 56] = true := by kernel_rfl
theorem many_all (n : Nat) : (many n).all (fun s => isTy s.data.toList) = true := by
  rw [List.all_eq_true]
  intro s hs
  rw [(List.mem_replicate.1 hs).2]
  exact ty_i8'
/-- The list of so many. -/
def manyJ (n : Nat) : List UInt8 := joinR ((many n).map (·.data.toList))
theorem manyJ_size {n : Nat} (h : n ≤ 1000) : (⟨(manyJ n).toArray⟩ : ByteArray).size < 4294967281 := by
  have := join_size (all_len (many_all n))
  rw [many_len] at this
  rw [mk_size, manyJ, joinR, List.length_cons, List.length_append, List.length_singleton]
  omega

theorem Join_101 (ao : Option Addr) (w : World) (hz : StrsAt w ao (many 101)) (hE : Env w) :
    Calls Tryz.prog 38 #[.slice ao 101 101] w fun e w' => e = .returned (.tuple #[.string ⟨#[]⟩, .int .i64 2]) ∧ Below w.heap.size w w' := by
  have h := Join_long ao (many 101) 101 (by rw [many_len]; omega) (many_all 101) (by rw [many_len]; omega) w hz hE
  rwa [many_len] at h
theorem Join_100 (ao : Option Addr) (w : World) (hz : StrsAt w ao (many 100)) (hE : Env w) :
    Calls Tryz.prog 38 #[.slice ao 100 100] w fun e w' => e = .returned (.tuple #[.string ⟨(manyJ 100).toArray⟩, .int .i64 0]) ∧ Below w.heap.size w w' := by
  have h := Join_yes ao (many 100) 100 (by rw [many_len]; omega) (many_all 100) (by rw [many_len]; omega) w hz hE
  rwa [many_len] at h
theorem JoinR_101 (ao : Option Addr) (w : World) (hz : StrsAt w ao (many 101)) :
    Calls Tryz.prog 39 #[.slice ao 101 101] w fun e w' => e = .returned (.string ⟨(manyJ 101).toArray⟩) ∧ w = w' := by
  have h := JoinR_any ao (many 101) 101 (by rw [many_len]; omega) (all_len (many_all 101)) w hz
  rwa [many_len] at h
theorem listR_many (n : Nat) : listR (manyJ n) = if n ≤ 100 then some ((many n).map (·.data.toList)) else none := by
  rw [manyJ, listR_joinR (all_tyR (many_all n)), List.length_map, many_len]
theorem Split_101 (w : World) (hE : Env w) : Calls Tryz.prog 35 #[.string ⟨(manyJ 101).toArray⟩] w fun e w' => e = .returned (.tuple #[.slice none 0 0, .int .i64 10]) ∧ Below w.heap.size w w' :=
  (Split_says ⟨(manyJ 101).toArray⟩ (manyJ_size (by omega)) w hE).mono fun e w' ⟨hb, h⟩ => by
    rcases h with ⟨_, he⟩ | ⟨ps, ao, c, h, _⟩
    · exact ⟨he, hb⟩
    · exact absurd ((listR_many 101).symm.trans h) (by rw [if_neg (by omega)]; simp)
theorem Split_100 (w : World) (hE : Env w) : Calls Tryz.prog 35 #[.string ⟨(manyJ 100).toArray⟩] w fun e w' => ∃ (ao : Option Addr) (c : Nat), e = .returned (.tuple #[.slice ao 100 c, .int .i64 0]) ∧ Below w.heap.size w w' :=
  (Split_says ⟨(manyJ 100).toArray⟩ (manyJ_size (by omega)) w hE).mono fun e w' ⟨hb, h⟩ => by
    rcases h with ⟨h, _⟩ | ⟨ps, ao, c, h, _, _, he⟩
    · exact absurd ((listR_many 100).symm.trans h) (by rw [if_pos (by omega)]; simp)
    · have hp : many 100 = ps := by
        have h2 := (listR_many 100).symm.trans h
        rw [if_pos (by omega)] at h2
        exact data_inj (Option.some.inj h2)
      exact ⟨ao, c, by rw [he, ← hp, many_len], hb⟩

/-- The list that the law fills, of which the first m are filled. -/
def filled (m : Nat) : Array Value := (List.replicate m (Value.string ⟨#[105, 56]⟩) ++ List.replicate (101 - m) (Value.string ⟨#[]⟩)).toArray
theorem filled_at {m j : Nat} (hm : m ≤ 101) (hj : j < 101) : (filled m)[j]? = some (if j < m then .string ⟨#[105, 56]⟩ else .string ⟨#[]⟩) := by
  rw [filled, List.getElem?_toArray]
  by_cases h : j < m
  · rw [List.getElem?_append_left (by rw [List.length_replicate]; exact h), List.getElem?_replicate, if_pos h, if_pos h]
  · rw [List.getElem?_append_right (by rw [List.length_replicate]; omega), List.length_replicate, List.getElem?_replicate, if_pos (by omega), if_neg h]
theorem filled_size {m : Nat} (hm : m ≤ 101) : (filled m).size = 101 := by
  rw [filled, List.size_toArray, List.length_append, List.length_replicate, List.length_replicate]
  omega
theorem filled_set {m : Nat} (hm : m < 101) : (filled m).setIfInBounds m (.string ⟨#[105, 56]⟩) = filled (m + 1) := by
  apply Array.ext
  · rw [Array.size_setIfInBounds, filled_size (by omega), filled_size (by omega)]
  · intro i h1 h2
    rw [filled_size (by omega)] at h2
    refine Option.some.inj ?_
    rw [← Array.getElem?_eq_getElem, ← Array.getElem?_eq_getElem, Array.getElem?_setIfInBounds, filled_size (by omega)]
    by_cases e : m = i
    · subst e
      rw [if_pos rfl, if_pos hm, filled_at (by omega) h2, if_pos (by omega)]
    · rw [if_neg e, filled_at (by omega) h2, filled_at (by omega) h2]
      by_cases hi : i < m
      · rw [if_pos hi, if_pos (by omega)]
      · rw [if_neg hi, if_neg (by omega)]
theorem many_at {n j : Nat} (h : j < n) : (many n)[j]?.getD ByteArray.empty = ⟨#[105, 56]⟩ := by
  rw [many, List.getElem?_replicate, if_pos h]
  rfl
theorem filled_strs {w : World} {b n : Nat} (h : w.heap[b]? = some (.cells (filled 101) 9 (0, 0))) (hn : n ≤ 101) : StrsAt w (some ⟨b, 0, none⟩) (many n) := by
  refine .inr ⟨_, rfl, fun j hj => ?_⟩
  rw [many_len] at hj
  rw [Addr.add_lit, cell_of_row _ _ _ _ _ _ h, filled_at (by omega) (by omega), if_pos (by omega), many_at hj]
theorem filled_cell {w : World} {b m : Nat} (h : w.heap[b]? = some (.cells (filled m) 9 (0, 0))) (hm : m < 101) : w.cell? ⟨b, m, none⟩ = some (.string ⟨#[]⟩) ∧ w.frozen? ⟨b, m, none⟩ = false := by
  refine ⟨?_, by simp [World.frozen?, h]⟩
  have := cell_of_row w b m _ _ _ h
  rw [this, filled_at (by omega) hm, if_neg (by omega)]
theorem made_filled : madeCells (Value.string ⟨#[]⟩).cells (Int.toNat 101 * 1) = filled 0 := by kernel_rfl
theorem make_many (u : World) : (Instr.makeSlice 59 (.int .i64 101) (.int .i64 101)).run Tryz.prog u = .ok (.slice (some ⟨u.heap.size, 0, none⟩) 101 101) (u.alloc (.cells (filled 0) 9)) := by
  obtain ⟨i, hi, hz, hsz, hby⟩ := info_str
  have h := run_make (P := Tryz.prog) u 59 9 i (.string ⟨#[]⟩) Tryz.underlying59 hi hz .i64 .i64 101 101 (by omega) (Int.le_refl _) (by rw [hby]; decide) (by decide)
  rw [hsz, made_filled] at h
  exact h

set_option maxHeartbeats 8000000 in
set_option maxRecDepth 100000 in
theorem TypesJoins_any (ao : Option Addr) (ss : List ByteArray) (c : Nat) (hcap : ss.length ≤ c) (hn : ss.length ≤ 9223372036854775807) (h63 : ∀ s ∈ ss, s.size ≤ 9223372036854775807) (w : World) (hz : StrsAt w ao ss) (hE : Env w) :
    Calls Tryz.prog 8 #[.slice ao ss.length c] w fun e w' => e = .returned (.bool true) ∧ Below w.heap.size w w' := by
  have HE := Lib.hid hE
  have Hz := Lib.hid hz
  have H63 := Lib.hid h63
  clear hE hz h63
  obtain ⟨j, n, hJ, hcase⟩ := Join_says ao ss c hcap hn
  have HJ := Lib.hid hJ
  have HC := Lib.hid hcase
  clear hJ hcase
  go_enter Tryz.func8, Tryz.ntmps8
  go_wp2_with fail
  refine (HJ.out _ Hz.out HE.out).mono ?_
  rintro e w1 ⟨rfl, hb1⟩
  have B1 := Lib.hid hb1
  have Z1 := Lib.hid (Hz.out.below hb1)
  clear hb1
  go_wp2_with fail
  go_loopw [5, 6] (fun x i wr => ∃ m : Nat, m ≤ ss.length ∧ i = .int .i64 m ∧ x = .int .i64 (wantOf (ss.take m)) ∧ Hid (Below w.heap.size w wr ∧ StrsAt wr ao ss)) (fun _ i _ => ss.length - (intOf i).toNat)
  case atStart => exact ⟨0, Nat.zero_le _, rfl, rfl, B1.out, Z1.out⟩
  case round =>
    obtain ⟨m, hm, rfl, rfl, HS⟩ := hrel
    by_cases hlt : m < ss.length
    · rcases HS.out.2 with h0 | ⟨a, rfl, hc⟩
      · rw [h0] at hlt
        exact absurd hlt (Nat.not_lt_zero _)
      have hcm := hc m hlt
      have hx63 := H63.out _ (List.getElem_mem hlt)
      rw [show ss[m] = ss[m]?.getD ByteArray.empty by rw [List.getElem?_eq_getElem hlt]; rfl] at hx63
      have hstep := fun b => want_step (b := b) hlt
      obtain ⟨x, hx⟩ : ∃ x, x = ss[m]?.getD ByteArray.empty := ⟨_, rfl⟩
      rw [← hx] at hcm hx63
      rw [← hx] at hstep
      have HX := Lib.hid hstep
      clear hc hstep hx
      go_wp2_with fail
      refine (Is_ref x hx63 _).mono ?_
      rintro e w2 ⟨rfl, hb2⟩
      have S2 := Lib.hid (And.intro (HS.out.1.trans (hb2.mono HS.out.1.size)) (HS.out.2.below hb2))
      clear hb2
      cases hty : (readR x.data.toList).isSome
      · have hw := Lib.hid (HX.out false (by rw [isTy_isTyR]; exact hty))
        go_wp2_with fail
        go_roundw
        case rel => exact ⟨m + 1, by omega, by go_num, by rw [hw.out]; rfl, S2.out⟩
        case measure => simp [intOf]; omega
      · have hw := Lib.hid (HX.out true (by rw [isTy_isTyR]; exact hty))
        go_wp2_with fail
        go_roundw
        case rel => exact ⟨m + 1, by omega, by go_num, by rw [hw.out]; rfl, S2.out⟩
        case measure => simp [intOf]; omega
    · obtain rfl : m = ss.length := by omega
      rw [List.take_length]
      have HB := Lib.hid HS.out.1
      have HZ := Lib.hid HS.out.2
      obtain ⟨wA, hwA⟩ : ∃ wA, wA = wr := ⟨_, rfl⟩
      subst hwA
      have M0 : Hid ((wA.alloc (.cells (filled 0) 9)).heap[wA.heap.size]? = some (.cells (filled 0) 9 (0, 0)) ∧ Below wA.heap.size wA (wA.alloc (.cells (filled 0) 9))) :=
        Lib.hid ⟨heap_alloc_new _ _, (Below.refl _ _).alloc (Nat.le_refl _) _⟩
      rcases HC.out with ⟨hj, rfl, hw⟩ | ⟨hj, rfl, hw, h100⟩ | ⟨hj, rfl, hw, h100, hall⟩
      · rw [hw]
        subst hj
        clear hw
        have hmk := make_many wA
        go_wp2_with fail
        clear hmk
        go_loopw [8] (fun i wx => ∃ m : Nat, m ≤ 101 ∧ i = .int .i64 m ∧ Hid (wx.heap[wA.heap.size]? = some (.cells (filled m) 9 (0, 0)) ∧ Below wA.heap.size wA wx)) (fun i _ => 101 - (intOf i).toNat)
        case atStart => exact ⟨0, Nat.zero_le _, rfl, M0⟩
        case round =>
          obtain ⟨m, hm, rfl, HM⟩ := hrel
          by_cases hlt : m < 101
          · obtain ⟨hc, hf⟩ := filled_cell HM.out.1 hlt
            go_wp2_with fail
            go_roundw
            case rel => exact ⟨m + 1, by omega, by go_num, (heap_setCell_same _ _ m _ _ _ HM.out.1).trans (by rw [filled_set hlt]), HM.out.2.setCell (Nat.le_refl _) _⟩
            case measure => simp [intOf]; omega
          · obtain rfl : m = 101 := by omega
            have M1 := Lib.hid (filled_strs (n := 101) HM.out.1 (by omega))
            have M2 := Lib.hid (filled_strs (n := 100) HM.out.1 (by omega))
            have C0 := Lib.hid (HB.out.trans (HM.out.2.mono HB.out.size))
            go_wp2_with fail
            refine (Join_101 _ _ M1.out (HE.out.below C0.out)).mono ?_
            rintro e w4 ⟨rfl, hb4⟩
            have C4 := Lib.hid (C0.out.trans (hb4.mono C0.out.size))
            have N1 := Lib.hid (M1.out.below hb4)
            have N2 := Lib.hid (M2.out.below hb4)
            clear hb4
            go_wp2_with fail
            refine (Join_100 _ _ N2.out (HE.out.below C4.out)).mono ?_
            rintro e w5 ⟨rfl, hb5⟩
            have C5 := Lib.hid (C4.out.trans (hb5.mono C4.out.size))
            have P1 := Lib.hid (N1.out.below hb5)
            clear hb5
            go_wp2_with fail
            refine (JoinR_101 _ _ P1.out).mono ?_
            rintro e w6 ⟨rfl, rfl⟩
            go_wp2_with fail
            refine (Split_101 _ (HE.out.below C5.out)).mono ?_
            rintro e w7 ⟨rfl, hb7⟩
            have C7 := Lib.hid (C5.out.trans (hb7.mono C5.out.size))
            clear hb7
            go_wp2_with fail
            refine (Split_100 _ (HE.out.below C7.out)).mono ?_
            rintro e w8 ⟨ao8, c8, rfl, hb8⟩
            have C8 := Lib.hid (C7.out.trans (hb8.mono C7.out.size))
            clear hb8
            go_wp2_with fail
            refine (awake_any _ (HE.out.below C8.out)).mono ?_
            rintro e w9 ⟨rfl, hb9⟩
            have C9 := Lib.hid (C8.out.trans (hb9.mono C8.out.size))
            clear hb9
            go_wp2_with fail
            go_ret
            exact ⟨rfl, C9.out⟩
      · rw [hw]
        subst hj
        clear hw
        have hmk := make_many wA
        go_wp2_with fail
        clear hmk
        go_loopw [8] (fun i wx => ∃ m : Nat, m ≤ 101 ∧ i = .int .i64 m ∧ Hid (wx.heap[wA.heap.size]? = some (.cells (filled m) 9 (0, 0)) ∧ Below wA.heap.size wA wx)) (fun i _ => 101 - (intOf i).toNat)
        case atStart => exact ⟨0, Nat.zero_le _, rfl, M0⟩
        case round =>
          obtain ⟨m, hm, rfl, HM⟩ := hrel
          by_cases hlt : m < 101
          · obtain ⟨hc, hf⟩ := filled_cell HM.out.1 hlt
            go_wp2_with fail
            go_roundw
            case rel => exact ⟨m + 1, by omega, by go_num, (heap_setCell_same _ _ m _ _ _ HM.out.1).trans (by rw [filled_set hlt]), HM.out.2.setCell (Nat.le_refl _) _⟩
            case measure => simp [intOf]; omega
          · obtain rfl : m = 101 := by omega
            have M1 := Lib.hid (filled_strs (n := 101) HM.out.1 (by omega))
            have M2 := Lib.hid (filled_strs (n := 100) HM.out.1 (by omega))
            have C0 := Lib.hid (HB.out.trans (HM.out.2.mono HB.out.size))
            go_wp2_with fail
            refine (Join_101 _ _ M1.out (HE.out.below C0.out)).mono ?_
            rintro e w4 ⟨rfl, hb4⟩
            have C4 := Lib.hid (C0.out.trans (hb4.mono C0.out.size))
            have N1 := Lib.hid (M1.out.below hb4)
            have N2 := Lib.hid (M2.out.below hb4)
            clear hb4
            go_wp2_with fail
            refine (Join_100 _ _ N2.out (HE.out.below C4.out)).mono ?_
            rintro e w5 ⟨rfl, hb5⟩
            have C5 := Lib.hid (C4.out.trans (hb5.mono C4.out.size))
            have P1 := Lib.hid (N1.out.below hb5)
            clear hb5
            go_wp2_with fail
            refine (JoinR_101 _ _ P1.out).mono ?_
            rintro e w6 ⟨rfl, rfl⟩
            go_wp2_with fail
            refine (Split_101 _ (HE.out.below C5.out)).mono ?_
            rintro e w7 ⟨rfl, hb7⟩
            have C7 := Lib.hid (C5.out.trans (hb7.mono C5.out.size))
            clear hb7
            go_wp2_with fail
            refine (Split_100 _ (HE.out.below C7.out)).mono ?_
            rintro e w8 ⟨ao8, c8, rfl, hb8⟩
            have C8 := Lib.hid (C7.out.trans (hb8.mono C7.out.size))
            clear hb8
            go_wp2_with fail
            refine (awake_any _ (HE.out.below C8.out)).mono ?_
            rintro e w9 ⟨rfl, hb9⟩
            have C9 := Lib.hid (C8.out.trans (hb9.mono C8.out.size))
            clear hb9
            go_wp2_with fail
            go_ret
            exact ⟨rfl, C9.out⟩
      · rw [hw]
        subst hj
        have HA := Lib.hid hall
        clear hw hall
        go_wp2_with fail
        refine (JoinR_any ao ss c (by omega) (all_len HA.out) _ HZ.out).mono ?_
        rintro e w3 ⟨rfl, hw3⟩
        subst hw3
        have hmk := make_many wA
        go_wp2_with fail
        clear hmk
        go_loopw [8] (fun i wx => ∃ m : Nat, m ≤ 101 ∧ i = .int .i64 m ∧ Hid (wx.heap[wA.heap.size]? = some (.cells (filled m) 9 (0, 0)) ∧ Below wA.heap.size wA wx)) (fun i _ => 101 - (intOf i).toNat)
        case atStart => exact ⟨0, Nat.zero_le _, rfl, M0⟩
        case round =>
          obtain ⟨m, hm, rfl, HM⟩ := hrel
          by_cases hlt : m < 101
          · obtain ⟨hc, hf⟩ := filled_cell HM.out.1 hlt
            go_wp2_with fail
            go_roundw
            case rel => exact ⟨m + 1, by omega, by go_num, (heap_setCell_same _ _ m _ _ _ HM.out.1).trans (by rw [filled_set hlt]), HM.out.2.setCell (Nat.le_refl _) _⟩
            case measure => simp [intOf]; omega
          · obtain rfl : m = 101 := by omega
            have M1 := Lib.hid (filled_strs (n := 101) HM.out.1 (by omega))
            have M2 := Lib.hid (filled_strs (n := 100) HM.out.1 (by omega))
            have C0 := Lib.hid (HB.out.trans (HM.out.2.mono HB.out.size))
            go_wp2_with fail
            refine (Join_101 _ _ M1.out (HE.out.below C0.out)).mono ?_
            rintro e w4 ⟨rfl, hb4⟩
            have C4 := Lib.hid (C0.out.trans (hb4.mono C0.out.size))
            have N1 := Lib.hid (M1.out.below hb4)
            have N2 := Lib.hid (M2.out.below hb4)
            clear hb4
            go_wp2_with fail
            refine (Join_100 _ _ N2.out (HE.out.below C4.out)).mono ?_
            rintro e w5 ⟨rfl, hb5⟩
            have C5 := Lib.hid (C4.out.trans (hb5.mono C4.out.size))
            have P1 := Lib.hid (N1.out.below hb5)
            clear hb5
            go_wp2_with fail
            refine (JoinR_101 _ _ P1.out).mono ?_
            rintro e w6 ⟨rfl, rfl⟩
            go_wp2_with fail
            refine (Split_101 _ (HE.out.below C5.out)).mono ?_
            rintro e w7 ⟨rfl, hb7⟩
            have C7 := Lib.hid (C5.out.trans (hb7.mono C5.out.size))
            clear hb7
            go_wp2_with fail
            refine (Split_100 _ (HE.out.below C7.out)).mono ?_
            rintro e w8 ⟨ao8, c8, rfl, hb8⟩
            have C8 := Lib.hid (C7.out.trans (hb8.mono C7.out.size))
            clear hb8
            go_wp2_with fail
            refine (awake_any _ (HE.out.below C8.out)).mono ?_
            rintro e w9 ⟨rfl, hb9⟩
            have C9 := Lib.hid (C8.out.trans (hb9.mono C8.out.size))
            clear hb9
            go_wp2_with fail
            go_ret
            exact ⟨rfl, C9.out⟩
end Go.Proofs.YtjkhjflemcljdaaGreatDoor
