/-
  The reference's 'Right' by its contract.
-/
import Derived.Test.YtiofnjnaleglgaaGreatDoorG30
import Derived.Test.YtiofnjnaleglgaaGreatDoorG27
namespace Go.Proofs.YtiofnjnaleglgaaGreatDoor
open Go.RowKit

/-- The strings of an attribute are no longer than a string may be. -/
structure Short (a : At) : Prop where
  text : a.text.size ≤ 9223372036854775807
  texts : ∀ s ∈ a.texts, s.size ≤ 9223372036854775807
theorem Is_bool (s : ByteArray) (hs : s.size ≤ 9223372036854775807) (w : World) : Calls Tryz.prog 42 #[.string s] w fun e w' => ∃ b, e = .returned (.bool b) ∧ isTy s.data.toList = b ∧ Below w.heap.size w w' :=
  (Is_ref s hs w).mono fun _ _ ⟨he, hw⟩ => ⟨_, he, isTy_isTyR _, hw⟩
theorem isEmpty_size {t : ByteArray} {b : Bool} (h : t.toList.isEmpty = b) : (t.size == 0) = b := by
  rw [ByteArray.toList_eq] at h
  rw [← h, size_eq]
  cases t.data.toList <;> rfl
section
variable {n t : ByteArray} {k z : Int} {is : List Int} {ts : List ByteArray}
theorem right_bad (_hn : isNameR n.data.toList = true) (h : kindB ⟨n, k, z, t, is, ts⟩ = false) : rightB ⟨n, k, z, t, is, ts⟩ = false := by unfold rightB; rw [h, Bool.and_false]
theorem right_is (hn : isNameR n.data.toList = true) {b : Bool} (h : kindB ⟨n, k, z, t, is, ts⟩ = b) : rightB ⟨n, k, z, t, is, ts⟩ = b := by unfold rightB; rw [h]; show (isNameR n.data.toList && b) = b; rw [hn, Bool.true_and]
end

set_option maxHeartbeats 8000000 in
set_option maxRecDepth 100000 in
theorem RRight_any (a : At) (v : Value) (ai : Option Addr) (ci : Nat) (ao : Option Addr) (ct : Nat) (hs : Short a) (w : World) (ha : AttAt w a v ai ci ao ct) :
    Calls Tryz.prog 22 #[v] w fun e w' => e = .returned (.bool (rightB a)) ∧ Below w.heap.size w w' := by
  have hv := ha.val
  have HTS := Lib.hid ha.texts
  have HIL := Lib.hid (And.intro ha.wf.ilen ha.wf.tlen)
  have HSH := Lib.hid hs
  clear ha hs
  obtain ⟨n, k, z, t, is, ts⟩ := a
  dsimp only at hv HTS HIL
  subst hv
  have B0 := Lib.hid (alloc_below w (.cells #[.string n, .int .i64 k, .int .i64 z, .string t, .slice ai is.length ci, .slice ao ts.length ct] 29))
  have T0 := Lib.hid (heap_alloc_new w (.cells #[.string n, .int .i64 k, .int .i64 z, .string t, .slice ai is.length ci, .slice ao ts.length ct] 29))
  have HT0 := Lib.hid (HTS.out.below (alloc_below w (.cells #[.string n, .int .i64 k, .int .i64 z, .string t, .slice ai is.length ci, .slice ao ts.length ct] 29)))
  go_enter Tryz.func22, Tryz.ntmps22
  go_upto_region 1 with fail
  generalize w.alloc (.cells #[.string n, .int .i64 k, .int .i64 z, .string t, .slice ai is.length ci, .slice ao ts.length ct] 29) = w0 at B0 T0 HT0 ⊢
  obtain ⟨D, hD⟩ : ∃ D, D = w.heap.size := ⟨_, rfl⟩
  rw [← hD] at T0 ⊢
  clear hD HTS
  obtain ⟨c0, c1, c2, c3, c4, c5, cf⟩ := cells6 T0.out
  go_wp2_with fail
  refine (IsName_some n w0).mono ?_
  rintro e w1 ⟨b, rfl, hn, rfl⟩
  cases b with
  | false =>
    have hp := Lib.hid (show rightB ⟨n, k, z, t, is, ts⟩ = false from by unfold rightB; show (isNameR n.data.toList && _) = false; rw [hn]; rfl)
    go_wp2_with fail
    go_ret
    exact ⟨by rw [hp.out]; rfl, B0.out⟩
  | true =>
  have HN := Lib.hid hn
  clear hn
  by_cases hlo : k < 0
  · have hp := Lib.hid (right_bad HN.out (show kindB ⟨n, k, z, t, is, ts⟩ = false from by unfold kindB; dsimp only; rw [if_neg (by omega), if_neg (by omega), if_neg (by omega), if_neg (by omega), if_neg (by omega), if_neg (by omega)]))
    go_wp2_with fail
    go_ret
    exact ⟨by rw [hp.out]; rfl, B0.out⟩
  by_cases hhi : 5 < k
  · have hp := Lib.hid (right_bad HN.out (show kindB ⟨n, k, z, t, is, ts⟩ = false from by unfold kindB; dsimp only; rw [if_neg (by omega), if_neg (by omega), if_neg (by omega), if_neg (by omega), if_neg (by omega), if_neg (by omega)]))
    go_wp2_with fail
    go_ret
    exact ⟨by rw [hp.out]; rfl, B0.out⟩
  rcases (show k = 0 ∨ k = 1 ∨ k = 2 ∨ k = 3 ∨ k = 4 ∨ k = 5 by omega) with rfl | rfl | rfl | rfl | rfl | rfl
  · clear hlo hhi
    cases ht : t.toList.isEmpty with
    | false =>
      have hte := isEmpty_size ht
      have hp := Lib.hid (right_bad (t := t) (is := is) (ts := ts) (z := z) HN.out (show kindB ⟨n, 0, z, t, is, ts⟩ = false from by simp only [kindB]; simp [hte]))
      go_wp2_with fail
      go_ret
      exact ⟨by rw [hp.out]; rfl, B0.out⟩
    | true =>
    by_cases hi : is.length = 0
    rotate_left
    · have hii : ¬ (is.length : Int) = 0 := by omega
      have hp := Lib.hid (right_bad (t := t) (is := is) (ts := ts) (z := z) HN.out (show kindB ⟨n, 0, z, t, is, ts⟩ = false from by simp only [kindB]; simp [show (is.length == 0) = false by simpa using hi]))
      go_wp2_with fail
      go_ret
      exact ⟨by rw [hp.out]; rfl, B0.out⟩
    obtain rfl : is = [] := List.eq_nil_of_length_eq_zero hi
    by_cases hs : ts.length = 0
    rotate_left
    · have hsi : ¬ (ts.length : Int) = 0 := by omega
      have hp := Lib.hid (right_bad (t := t) (ts := ts) (z := z) HN.out (show kindB ⟨n, 0, z, t, [], ts⟩ = false from by simp only [kindB]; simp [show (ts.length == 0) = false by simpa using hs]))
      go_wp2_with fail
      go_ret
      exact ⟨by rw [hp.out]; rfl, B0.out⟩
    obtain rfl : ts = [] := List.eq_nil_of_length_eq_zero hs
    have hte := isEmpty_size ht
    have hp := Lib.hid (right_is HN.out (show kindB ⟨n, 0, z, t, [], []⟩ = true from by simp only [kindB]; simp [hte]))
    have hl0 : ([] : List ByteArray).length = 0 := rfl
    have hl1 : ([] : List Int).length = 0 := rfl
    go_wp2_with fail
    go_loopw [4] (fun i wr => i = .int .i64 0 ∧ Hid (wr = w0)) (fun _ _ => 0)
    case atStart => exact ⟨rfl, rfl⟩
    case round =>
      obtain ⟨rfl, hw⟩ := hrel
      obtain rfl : _ = w0 := hw.out
      go_wp2_with fail
      go_ret
      exact ⟨by rw [hp.out]; rfl, B0.out⟩
  · clear hlo hhi
    by_cases hz : z = 0
    rotate_left
    · have hp := Lib.hid (right_bad (t := t) (is := is) (ts := ts) HN.out (show kindB ⟨n, 1, z, t, is, ts⟩ = false from by simp [kindB, usesTextB, hz]))
      go_wp2_with fail
      go_ret
      exact ⟨by rw [hp.out]; rfl, B0.out⟩
    by_cases hi : is.length = 0
    rotate_left
    · have hii : ¬ (is.length : Int) = 0 := by omega
      have hp := Lib.hid (right_bad (t := t) (is := is) (ts := ts) (z := z) HN.out (show kindB ⟨n, 1, z, t, is, ts⟩ = false from by simp only [kindB, usesTextB]; simp [show (is.length == 0) = false by simpa using hi]))
      go_wp2_with fail
      go_ret
      exact ⟨by rw [hp.out]; rfl, B0.out⟩
    obtain rfl : is = [] := List.eq_nil_of_length_eq_zero hi
    by_cases hs : ts.length = 0
    rotate_left
    · have hsi : ¬ (ts.length : Int) = 0 := by omega
      have hp := Lib.hid (right_bad (t := t) (ts := ts) (z := z) HN.out (show kindB ⟨n, 1, z, t, [], ts⟩ = false from by simp only [kindB, usesTextB]; simp [show (ts.length == 0) = false by simpa using hs]))
      go_wp2_with fail
      go_ret
      exact ⟨by rw [hp.out]; rfl, B0.out⟩
    obtain rfl : ts = [] := List.eq_nil_of_length_eq_zero hs
    subst hz
    by_cases hlen : t.size ≤ 1000
    · have hli : (t.size : Int) ≤ 1000 := by omega
      have hp := Lib.hid (right_is HN.out (show kindB ⟨n, 1, 0, t, [], []⟩ = true from by simp [kindB, usesTextB, hlen]))
      go_wp2_with fail
      go_ret
      exact ⟨by rw [hp.out]; rfl, B0.out⟩
    · have hli : ¬ (t.size : Int) ≤ 1000 := by omega
      have hp := Lib.hid (right_is HN.out (show kindB ⟨n, 1, 0, t, [], []⟩ = false from by simp [kindB, usesTextB, hlen]))
      go_wp2_with fail
      go_ret
      exact ⟨by rw [hp.out]; show Ending.returned (.bool (decide ((t.size : Int) ≤ 1000))) = _; rw [decide_eq_false (by omega)], B0.out⟩
  · clear hlo hhi
    by_cases hz : z = 0
    rotate_left
    · have hp := Lib.hid (right_bad (t := t) (is := is) (ts := ts) HN.out (show kindB ⟨n, 2, z, t, is, ts⟩ = false from by simp [kindB, usesTextB, hz]))
      go_wp2_with fail
      go_ret
      exact ⟨by rw [hp.out]; rfl, B0.out⟩
    by_cases hi : is.length = 0
    rotate_left
    · have hii : ¬ (is.length : Int) = 0 := by omega
      have hp := Lib.hid (right_bad (t := t) (is := is) (ts := ts) (z := z) HN.out (show kindB ⟨n, 2, z, t, is, ts⟩ = false from by simp only [kindB, usesTextB]; simp [show (is.length == 0) = false by simpa using hi]))
      go_wp2_with fail
      go_ret
      exact ⟨by rw [hp.out]; rfl, B0.out⟩
    obtain rfl : is = [] := List.eq_nil_of_length_eq_zero hi
    by_cases hs : ts.length = 0
    rotate_left
    · have hsi : ¬ (ts.length : Int) = 0 := by omega
      have hp := Lib.hid (right_bad (t := t) (ts := ts) (z := z) HN.out (show kindB ⟨n, 2, z, t, [], ts⟩ = false from by simp only [kindB, usesTextB]; simp [show (ts.length == 0) = false by simpa using hs]))
      go_wp2_with fail
      go_ret
      exact ⟨by rw [hp.out]; rfl, B0.out⟩
    obtain rfl : ts = [] := List.eq_nil_of_length_eq_zero hs
    subst hz
    go_wp2_with fail
    refine (IsName_some t w0).mono ?_
    rintro e w1 ⟨b, rfl, hb, rfl⟩
    have hp := Lib.hid (right_is HN.out (show kindB ⟨n, 2, 0, t, [], []⟩ = b from by simp [kindB, usesTextB, hb]))
    go_wp2_with fail
    go_ret
    exact ⟨by rw [hp.out]; rfl, B0.out⟩
  · clear hlo hhi
    by_cases hz : z = 0
    rotate_left
    · have hp := Lib.hid (right_bad (t := t) (is := is) (ts := ts) HN.out (show kindB ⟨n, 3, z, t, is, ts⟩ = false from by simp [kindB, usesTextB, hz]))
      go_wp2_with fail
      go_ret
      exact ⟨by rw [hp.out]; rfl, B0.out⟩
    by_cases hi : is.length = 0
    rotate_left
    · have hii : ¬ (is.length : Int) = 0 := by omega
      have hp := Lib.hid (right_bad (t := t) (is := is) (ts := ts) (z := z) HN.out (show kindB ⟨n, 3, z, t, is, ts⟩ = false from by simp only [kindB, usesTextB]; simp [show (is.length == 0) = false by simpa using hi]))
      go_wp2_with fail
      go_ret
      exact ⟨by rw [hp.out]; rfl, B0.out⟩
    obtain rfl : is = [] := List.eq_nil_of_length_eq_zero hi
    by_cases hs : ts.length = 0
    rotate_left
    · have hsi : ¬ (ts.length : Int) = 0 := by omega
      have hp := Lib.hid (right_bad (t := t) (ts := ts) (z := z) HN.out (show kindB ⟨n, 3, z, t, [], ts⟩ = false from by simp only [kindB, usesTextB]; simp [show (ts.length == 0) = false by simpa using hs]))
      go_wp2_with fail
      go_ret
      exact ⟨by rw [hp.out]; rfl, B0.out⟩
    obtain rfl : ts = [] := List.eq_nil_of_length_eq_zero hs
    subst hz
    go_wp2_with fail
    refine (Is_bool t HSH.out.text w0).mono ?_
    rintro e w1 ⟨b, rfl, hb, hbw⟩
    have hp := Lib.hid (right_is HN.out (show kindB ⟨n, 3, 0, t, [], []⟩ = b from by simp [kindB, usesTextB, hb]))
    have B1 := Lib.hid (B0.out.trans (hbw.mono B0.out.size))
    clear hb hbw
    go_wp2_with fail
    go_ret
    exact ⟨by rw [hp.out]; rfl, B1.out⟩
  · clear hlo hhi
    by_cases hz : z = 0
    rotate_left
    · have hp := Lib.hid (right_bad (t := t) (is := is) (ts := ts) HN.out (show kindB ⟨n, 4, z, t, is, ts⟩ = false from by simp [kindB, hz]))
      go_wp2_with fail
      go_ret
      exact ⟨by rw [hp.out]; rfl, B0.out⟩
    cases ht : t.toList.isEmpty with
    | false =>
      have hte := isEmpty_size ht
      have hp := Lib.hid (right_bad (t := t) (is := is) (ts := ts) (z := z) HN.out (show kindB ⟨n, 4, z, t, is, ts⟩ = false from by simp only [kindB]; simp [hte]))
      go_wp2_with fail
      go_ret
      exact ⟨by rw [hp.out]; rfl, B0.out⟩
    | true =>
    by_cases hs : ts.length = 0
    rotate_left
    · have hsi : ¬ (ts.length : Int) = 0 := by omega
      have hp := Lib.hid (right_bad (t := t) (ts := ts) (z := z) HN.out (show kindB ⟨n, 4, z, t, is, ts⟩ = false from by simp only [kindB]; simp [show (ts.length == 0) = false by simpa using hs]))
      go_wp2_with fail
      go_ret
      exact ⟨by rw [hp.out]; rfl, B0.out⟩
    obtain rfl : ts = [] := List.eq_nil_of_length_eq_zero hs
    subst hz
    have hte := isEmpty_size ht
    go_wp2_with fail
    go_loopw [4] (fun i wr => i = .int .i64 0 ∧ Hid (wr = w0)) (fun _ _ => 0)
    case atStart => exact ⟨rfl, rfl⟩
    case round =>
      obtain ⟨rfl, hw⟩ := hrel
      obtain rfl : _ = w0 := hw.out
      by_cases hlen : is.length ≤ 100
      · have hli : (is.length : Int) ≤ 100 := by omega
        have hp := Lib.hid (right_is HN.out (show kindB ⟨n, 4, 0, t, is, []⟩ = true from by simp only [kindB]; simp [hte, hlen]))
        go_wp2_with fail
        go_ret
        exact ⟨by rw [hp.out]; rfl, B0.out⟩
      · have hli : ¬ (is.length : Int) ≤ 100 := by omega
        have hp := Lib.hid (right_is HN.out (show kindB ⟨n, 4, 0, t, is, []⟩ = false from by simp only [kindB]; simp [hte, hlen]))
        go_wp2_with fail
        go_ret
        exact ⟨by rw [hp.out]; rfl, B0.out⟩
  · clear hlo hhi
    by_cases hz : z = 0
    rotate_left
    · have hp := Lib.hid (right_bad (t := t) (is := is) (ts := ts) HN.out (show kindB ⟨n, 5, z, t, is, ts⟩ = false from by simp [kindB, hz]))
      go_wp2_with fail
      go_ret
      exact ⟨by rw [hp.out]; rfl, B0.out⟩
    cases ht : t.toList.isEmpty with
    | false =>
      have hte := isEmpty_size ht
      have hp := Lib.hid (right_bad (t := t) (is := is) (ts := ts) (z := z) HN.out (show kindB ⟨n, 5, z, t, is, ts⟩ = false from by simp only [kindB]; simp [hte]))
      go_wp2_with fail
      go_ret
      exact ⟨by rw [hp.out]; rfl, B0.out⟩
    | true =>
    by_cases hi : is.length = 0
    rotate_left
    · have hii : ¬ (is.length : Int) = 0 := by omega
      have hp := Lib.hid (right_bad (t := t) (is := is) (ts := ts) (z := z) HN.out (show kindB ⟨n, 5, z, t, is, ts⟩ = false from by simp only [kindB]; simp [show (is.length == 0) = false by simpa using hi]))
      go_wp2_with fail
      go_ret
      exact ⟨by rw [hp.out]; rfl, B0.out⟩
    obtain rfl : is = [] := List.eq_nil_of_length_eq_zero hi
    subst hz
    have hte := isEmpty_size ht
    have hci : (0 : Int) ≤ 100 := by decide
    have htl : ts.length ≤ 9223372036854775807 := HIL.out.2
    go_wp2_with fail
    go_loopw [4] (fun i wr => ∃ q : Nat, q ≤ ts.length ∧ i = .int .i64 q ∧ Hid (Below w0.heap.size w0 wr ∧ ∀ s ∈ ts.take q, isTy s.data.toList = true)) (fun i _ => ts.length - (intOf i).toNat)
    case atStart => exact ⟨0, Nat.zero_le _, rfl, Below.refl _ _, fun s hs => by cases hs⟩
    case round =>
      obtain ⟨q, hq, rfl, hh⟩ := hrel
      clear c0 c1 c2 c3 c4 c5 cf
      have T1 := Lib.hid ((hh.out.1.block _ (lt_of_block T0.out)).trans T0.out)
      obtain ⟨c0, c1, c2, c3, c4, c5, cf⟩ := cells6 T1.out
      by_cases hlt : q < ts.length
      · obtain ⟨ta, rfl, htc⟩ : ∃ ta, ao = some ta ∧ ∀ j, j < ts.length → wr.cell? (ta.add j) = some (.string (ts[j]?.getD ByteArray.empty)) := by
          rcases HT0.out.below hh.out.1 with h | h
          · rw [h] at hlt; exact absurd hlt (Nat.not_lt_zero _)
          · exact h
        have hcq := htc q hlt
        rw [List.getElem?_eq_getElem hlt] at hcq
        have hqi : (q : Int) < (ts.length : Int) := by omega
        have hsz := Lib.hid (HSH.out.texts ts[q] (List.getElem_mem hlt))
        obtain ⟨sq, hsq⟩ : ∃ sq, sq = ts[q] := ⟨_, rfl⟩
        have HSQ := Lib.hid hsq
        rw [← hsq] at hcq hsz
        clear htc hsq
        go_wp2_with fail
        refine (Is_bool sq hsz.out wr).mono ?_
        rintro e w2 ⟨b, rfl, hb, hbw⟩
        have B2 := Lib.hid (hh.out.1.trans (hbw.mono hh.out.1.size))
        have HB := Lib.hid hb
        clear hb hbw c0 c1 c2 c3 c4 c5 cf
        cases b with
        | false =>
          have htys : tysB ts = false := by
            unfold tysB
            rw [List.all_eq_false]
            exact ⟨ts[q], List.getElem_mem hlt, by rw [← HSQ.out, HB.out]; decide⟩
          have hp := Lib.hid (right_is HN.out (show kindB ⟨n, 5, 0, t, [], ts⟩ = false from by simp only [kindB]; simp [htys]))
          go_wp2_with fail
          go_ret
          exact ⟨by rw [hp.out]; rfl, B0.out.trans (B2.out.mono B0.out.size)⟩
        | true =>
          go_wp2_with fail
          go_roundw
          case rel =>
            refine ⟨q + 1, by omega, rfl, B2.out, fun s hs => ?_⟩
            rw [List.take_add_one, List.getElem?_eq_getElem hlt] at hs
            rcases List.mem_append.1 hs with hs | hs
            · exact hh.out.2 s hs
            · have : s = ts[q] := by simpa using hs
              rw [this, ← HSQ.out, HB.out]
          case measure => simp only [intOf]; omega
      · have hq' : q = ts.length := by omega
        subst hq'
        have htys : tysB ts = true := by
          unfold tysB
          rw [List.all_eq_true]
          intro s hs
          exact hh.out.2 s (by rw [List.take_length]; exact hs)
        have B2 := Lib.hid (B0.out.trans (hh.out.1.mono B0.out.size))
        by_cases hlen : ts.length ≤ 100
        · have hli : (ts.length : Int) ≤ 100 := by omega
          have hp := Lib.hid (right_is HN.out (show kindB ⟨n, 5, 0, t, [], ts⟩ = true from by simp only [kindB]; simp [hte, hlen, htys]))
          clear hh
          go_wp2_with fail
          go_ret
          exact ⟨by rw [hp.out]; rfl, B2.out⟩
        · have hli : ¬ (ts.length : Int) ≤ 100 := by omega
          have hp := Lib.hid (right_is HN.out (show kindB ⟨n, 5, 0, t, [], ts⟩ = false from by simp only [kindB]; simp [hlen]))
          clear hh
          go_wp2_with fail
          go_ret
          exact ⟨by rw [hp.out]; rfl, B2.out⟩
end Go.Proofs.YtiofnjnaleglgaaGreatDoor
