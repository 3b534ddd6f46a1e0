/-
  Texts of mine in one file: KAtUR.
-/
import Derived.Test.YtiofnjnaleglgaaGreatDoorQB
import Derived.BigQuiet
import Derived.Deep.QuietTactic
import Derived.Deep.RegionHeld3
/-
  The walk of the reference's 'Unquote'.
-/
namespace Go.Proofs.YtiofnjnaleglgaaGreatDoor
open Go.RowKit

structure UnqS (w : World) (l : List UInt8) (m : Nat) (ao : Option Addr) (c : Nat) (es : List UInt8) (W : World) : Prop where
  own : W.ownsRow w.heap.size 5 1 (.slice ao es.length c) es.length (es.map u8v)
  below : Below w.heap.size w W
  few : es.length ≤ m
  cond : UnqC l m es
/-- What 'Unquote' answers. -/
def RUnqPost (s : ByteArray) (w : World) (e : Ending) (w' : World) : Prop := Below w.heap.size w w' ∧
  ((∃ (T : List UInt8) (n : Nat), e = .returned (.tuple #[.string ⟨T.toArray⟩, .int .i64 n, .bool true]) ∧ n ≤ s.size ∧ quoteL T = s.data.toList.take n ∧ ∀ t rest, s.data.toList = quoteL t ++ rest → T = t ∧ n = (quoteL t).length) ∨
   (UnqN s.data.toList ∧ ∃ (T : ByteArray) (n : Int), e = .returned (.tuple #[.string T, .int .i64 n, .bool false])))
theorem runqPost_no {s : ByteArray} {w w' : World} {T : ByteArray} {n : Int} (h : UnqN s.data.toList) (hb : Below w.heap.size w w') : RUnqPost s w (.returned (.tuple #[.string T, .int .i64 n, .bool false])) w' := ⟨hb, .inr ⟨h, T, n, rfl⟩⟩
theorem runqPost_yes {s : ByteArray} {w w' : World} {T : List UInt8} {n : Nat} {z : Int} (hz : z = (n : Int)) (hn : n ≤ s.size) (h : quoteL T = s.data.toList.take n) (hu : ∀ t rest, s.data.toList = quoteL t ++ rest → T = t ∧ n = (quoteL t).length) (hb : Below w.heap.size w w') : RUnqPost s w (.returned (.tuple #[.string ⟨T.toArray⟩, .int .i64 z, .bool true])) w' := by
  subst hz
  exact ⟨hb, .inl ⟨T, n, rfl, hn, h, hu⟩⟩
theorem get_at {s : ByteArray} {m : Nat} (h : m < s.size) : s.data.toList[m]? = some (s[m]'h) := by rw [List.getElem?_eq_getElem (by rw [← size_eq]; exact h)]; rfl
theorem ix_at {s : ByteArray} {m : Nat} {z : Int} (hz : z = (m : Int)) (h : m < s.size) (w : World) : (Instr.index 9 (.string s) (.int .i64 z)).run Tryz.prog w = .ok (.int .u8 ((s[m]'h).toNat : Int)) w := by
  subst hz
  rw [run_index_string w _ _ _ _ Tryz.underlying9]
  have h1 : (m : Int) < (s.size : Int) := by omega
  simp [h1]
theorem own_u8_later {w W W' : World} {ao : Option Addr} {c : Nat} {es : List UInt8} (h : W.ownsRow w.heap.size 5 1 (.slice ao es.length c) es.length (es.map u8v)) (hb : Below W.heap.size W W') : W'.ownsRow w.heap.size 5 1 (.slice ao es.length c) es.length (es.map u8v) := by
  refine ⟨h.1, ?_⟩
  rcases h.2 with h | ⟨g, c', cur, hv, hB, hg, hr⟩
  · exact .inl h
  · exact .inr ⟨g, c', cur, hv, hB, (hb.block _ (lt_of_block hg)).trans hg, hr⟩
theorem u8_of (z : Int) (h0 : 0 ≤ z) (h1 : z < 256) : ∃ x : UInt8, (x.toNat : Int) = z := ⟨UInt8.ofNat z.toNat, by rw [UInt8.toNat_ofNat']; omega⟩

set_option maxHeartbeats 8000000 in
set_option maxRecDepth 100000 in
theorem Unquote_any (s : ByteArray) (hs : s.size ≤ 1048576) (w : World) : Calls Tryz.prog 60 #[.string s] w (RUnqPost s w) := by
  by_cases h0 : s.size = 0
  · have hn := Lib.hid (show UnqN s.data.toList from fun t rest e => by
      have := congrArg List.length e
      rw [← size_eq, h0, List.length_append, quoteL, List.length_cons] at this
      omega)
    have hem : s.toList.isEmpty = true := by
      rw [ByteArray.toList_eq]
      rw [size_eq] at h0
      rw [List.eq_nil_of_length_eq_zero h0]
      rfl
    clear h0
    go_enter Tryz.func60, Tryz.ntmps60
    go_wp2_with fail
    go_ret3
    exact runqPost_no hn.out (Below.refl _ _)
  have hem : s.toList.isEmpty = false := by
    rw [ByteArray.toList_eq]
    cases hl : s.data.toList with
    | nil => rw [size_eq, hl] at h0; exact absurd rfl h0
    | cons c t => rfl
  have hpos : 0 < s.size := by omega
  have hix0 := fun w => ix_at (s := s) (m := 0) (z := 0) rfl hpos w
  have hhd := get_at hpos
  have hc256 := (s[0]'hpos).toNat_lt
  generalize s[0]'hpos = c0 at hix0 hhd hc256
  have HHD := Lib.hid hhd
  have HSZ := Lib.hid hs
  have hszi : (s.size : Int) ≤ 1048576 := by omega
  clear hhd h0 hs
  by_cases h34 : c0.toNat = 34
  rotate_left
  · have k34 : ¬ (c0.toNat : Int) = 34 := by omega
    have hn := Lib.hid (show UnqN s.data.toList from fun t rest e => by
      have := HHD.out
      rw [e, quoteL, List.cons_append, List.getElem?_cons_zero] at this
      injection this with this
      exact h34 (by rw [← this]; rfl))
    clear h34
    go_enter Tryz.func60, Tryz.ntmps60
    go_wp2_with fail
    go_ret3
    exact runqPost_no hn.out (Below.refl _ _)
  have k34 : (c0.toNat : Int) = 34 := by omega
  clear h34
  go_enter Tryz.func60, Tryz.ntmps60
  go_wp2_with fail
  clear hix0 k34 hc256 hem
  go_loopw [5, 6] (fun o i wr => ∃ (m : Nat) (ao : Option Addr) (cp : Nat) (es : List UInt8), 1 ≤ m ∧ m ≤ s.size ∧ i = .int .i64 m ∧ o = .slice ao es.length cp ∧ Hid (UnqS w s.data.toList m ao cp es wr)) (fun _ i _ => s.size - (intOf i).toNat)
  case atStart => exact ⟨1, none, 0, [], Nat.le_refl _, by omega, rfl, rfl, World.ownsRow_nil _ _ _ _, Below.refl _ _, Nat.zero_le _, UnqC.start⟩
  case round =>
    obtain ⟨m, ao, cp, es, hm1, hms, rfl, rfl, HQ⟩ := hrel
    by_cases hlt : m < s.size
    rotate_left
    · obtain rfl : m = s.size := by omega
      have hn := Lib.hid (show UnqN s.data.toList from UnqC.out (es := es) (by rw [← size_eq]; exact HQ.out.cond))
      clear hlt
      go_wp2_with fail
      go_ret3
      exact runqPost_no hn.out HQ.out.below
    have hmi : (m : Int) < (s.size : Int) := by omega
    have hix := fun w => ix_at (s := s) rfl hlt w
    have hge := get_at hlt
    have hc := (s[m]'hlt).toNat_lt
    generalize s[m]'hlt = c at hix hge hc
    have HG := Lib.hid hge
    have HM := Lib.hid (And.intro hm1 hlt)
    have HO := Lib.hid HQ.out.own
    have HZ := Lib.hid HQ.out.below.size
    have HN := Lib.hid (show es.length ≤ 100000000 by have := HQ.out.few; have := HSZ.out; omega)
    clear hge hlt hm1
    by_cases h34 : c.toNat = 34
    · have k34 : (c.toNat : Int) = 34 := by omega
      have HC := Lib.hid (show s.data.toList[m]? = some 34 by rw [HG.out, UInt8.toNat_inj.1 (show c.toNat = (34 : UInt8).toNat from h34)])
      have hmg : ¬ (s.size : Int) ≤ (m : Int) := by omega
      clear h34
      go_upto_region 24 with fail
      obtain ⟨X, hX⟩ : ∃ X, s.extract 0 (m + 1) = X := ⟨_, rfl⟩
      have hXl : X.data.toList = s.data.toList.take (m + 1) := by rw [← hX]; exact front_extract s (m + 1)
      have hm1i : (m : Int) + 1 ≤ (s.size : Int) := by omega
      have q1 : IntKind.i64.wrap ((m : Int) + 1) = (m : Int) + 1 := by rw [IntKind.wrap_i64]; omega
      have q0 : ¬ (m : Int) + 1 < 0 := by omega
      have hcv := own_u8 HQ.out.own rfl
      have HCV := Lib.hid (fun W (hb : Below wr.heap.size wr W) => own_u8 (own_u8_later HQ.out.own hb) rfl)
      have HSD : (convert 56 9 (.slice ao es.length cp)).run Tryz.prog wr.drew = .ok (.string ⟨es.toArray⟩) wr.drew ∧ Hid (Below wr.heap.size wr wr.drew) := ⟨HCV.out _ (Below.refl wr.heap.size wr).drew, (Below.refl wr.heap.size wr).drew⟩
      have HST := Lib.hid (show ∀ V W, ((convert 56 9 (.slice ao es.length cp)).run Tryz.prog V = .ok (.string ⟨es.toArray⟩) V ∧ Hid (Below wr.heap.size wr V)) → Below V.heap.size V W → ((convert 56 9 (.slice ao es.length cp)).run Tryz.prog W = .ok (.string ⟨es.toArray⟩) W ∧ Hid (Below wr.heap.size wr W)) from fun V W h hb => ⟨HCV.out _ (h.2.out.trans (hb.mono h.2.out.size)), h.2.out.trans (hb.mono h.2.out.size)⟩)
      have HQU := Lib.hid (fun V => RQuote_any ⟨es.toArray⟩ (by have h1 := HQ.out.few; have h2 := HSZ.out; have h3 : (⟨es.toArray⟩ : ByteArray).size = es.length := mk_size _; omega) V)
      clear hcv
      by_cases hq : quoteL es = s.data.toList.take (m + 1)
      · have hbe : (quoteL es == X.toList) = true := bytes_beq hXl hq
        have HQE := Lib.hid hq
        clear hq hXl
        refine wp_region_held_drew (S := fun w' => (convert 56 9 (.slice ao es.length cp)).run Tryz.prog w' = .ok (.string ⟨es.toArray⟩) w' ∧ Hid (Below wr.heap.size wr w')) (by kernel_rfl) HSD (fun hHeld => ?_)
        refine wpAnyH_take (i := 0) (v := .slice ao es.length cp) rfl (by kernel_rfl) (by kernel_rfl) (by kernel_rfl) (fun _ _ _ h => h) (Or.inl ⟨by rfl, ?_⟩) hHeld ?_
        · intro w hSw
          try dsimp only at hSw
          go_simp
        simp only [Act.put, List.getElem_toArray, List.getElem_cons_zero, List.setIfInBounds_toArray, List.set_cons_succ, List.set_cons_zero]
        refine wpAnyH_take (i := 1) (v := .string ⟨es.toArray⟩) rfl (by kernel_rfl) (by kernel_rfl) (by kernel_rfl) (fun _ _ _ h => h) (Or.inl ⟨by rfl, ?_⟩) hHeld ?_
        · intro w hSw
          try dsimp only at hSw
          go_simp
        simp only [Act.put, List.getElem_toArray, List.getElem_cons_succ, List.getElem_cons_zero, List.setIfInBounds_toArray, List.set_cons_succ, List.set_cons_zero]
        refine wpAnyH_take (i := 2) (v := .int .i64 (m : Int)) rfl (by kernel_rfl) (by kernel_rfl) (by kernel_rfl) (fun _ _ _ h => h) (Or.inl ⟨by rfl, ?_⟩) hHeld ?_
        · intro w hSw
          try dsimp only at hSw
          go_simp
        simp only [Act.put, List.getElem_toArray, List.getElem_cons_succ, List.getElem_cons_zero, List.setIfInBounds_toArray, List.set_cons_succ, List.set_cons_zero]
        refine wpAnyH_take (i := 3) (v := .int .i64 ((m : Int) + 1)) rfl (by kernel_rfl) (by kernel_rfl) (by kernel_rfl) (fun _ _ _ h => h) (Or.inl ⟨by rfl, ?_⟩) hHeld ?_
        · intro w hSw
          try dsimp only at hSw
          go_simp
        simp only [Act.put, List.getElem_toArray, List.getElem_cons_succ, List.getElem_cons_zero, List.setIfInBounds_toArray, List.set_cons_succ, List.set_cons_zero]
        refine wpAnyH_take (i := 4) (v := .slice ao es.length cp) rfl (by kernel_rfl) (by kernel_rfl) (by kernel_rfl) (fun _ _ _ h => h) (Or.inl ⟨by rfl, ?_⟩) hHeld ?_
        · intro w hSw
          try dsimp only at hSw
          go_simp
        simp only [Act.put, List.getElem_toArray, List.getElem_cons_succ, List.getElem_cons_zero, List.setIfInBounds_toArray, List.set_cons_succ, List.set_cons_zero]
        refine wpAnyH_take (i := 5) (v := .string ⟨es.toArray⟩) rfl (by kernel_rfl) (by kernel_rfl) (by kernel_rfl) (fun _ _ _ h => h) (Or.inl ⟨by rfl, ?_⟩) hHeld ?_
        · intro w hSw
          try dsimp only at hSw
          go_simp
        simp only [Act.put, List.getElem_toArray, List.getElem_cons_succ, List.getElem_cons_zero, List.setIfInBounds_toArray, List.set_cons_succ, List.set_cons_zero]
        refine wpAnyH_take (i := 7) (v := .string s) rfl (by kernel_rfl) (by kernel_rfl) (by kernel_rfl) (fun _ _ _ h => h) (Or.inl ⟨by rfl, ?_⟩) hHeld ?_
        · intro w hSw
          try dsimp only at hSw
          go_simp
        simp only [Act.put, List.getElem_toArray, List.getElem_cons_succ, List.getElem_cons_zero, List.setIfInBounds_toArray, List.set_cons_succ, List.set_cons_zero]
        refine wpAnyH_take (i := 8) (v := .int .i64 (m : Int)) rfl (by kernel_rfl) (by kernel_rfl) (by kernel_rfl) (fun _ _ _ h => h) (Or.inl ⟨by rfl, ?_⟩) hHeld ?_
        · intro w hSw
          try dsimp only at hSw
          go_simp
        simp only [Act.put, List.getElem_toArray, List.getElem_cons_succ, List.getElem_cons_zero, List.setIfInBounds_toArray, List.set_cons_succ, List.set_cons_zero]
        refine wpAnyH_take (i := 9) (v := .int .i64 ((m : Int) + 1)) rfl (by kernel_rfl) (by kernel_rfl) (by kernel_rfl) (fun _ _ _ h => h) (Or.inl ⟨by rfl, ?_⟩) hHeld ?_
        · intro w hSw
          try dsimp only at hSw
          go_simp
        simp only [Act.put, List.getElem_toArray, List.getElem_cons_succ, List.getElem_cons_zero, List.setIfInBounds_toArray, List.set_cons_succ, List.set_cons_zero]
        refine wpAnyH_take (i := 10) (v := .string X) rfl (by kernel_rfl) (by kernel_rfl) (by kernel_rfl) (fun _ _ _ h => h) (Or.inl ⟨by rfl, ?_⟩) hHeld ?_
        · intro w hSw
          try dsimp only at hSw
          go_simp
        simp only [Act.put, List.getElem_toArray, List.getElem_cons_succ, List.getElem_cons_zero, List.setIfInBounds_toArray, List.set_cons_succ, List.set_cons_zero]
        refine wpAnyH_ready (rs := [6]) (by kernel_rfl) (by simp) ?_
        refine AllReadyH.cons rfl (fun K hK => ?_) AllReadyH.nil
        go_simp
        go_at_call 56
        with_reducible refine (HQU.out _).mono ?_
        rintro e w' ⟨rfl, hb⟩
        try dsimp only
        refine hK.out _ _ (HST.out _ _ hHeld hb) (fun hHeld2 => ?_)
        clear hK K hb hHeld
        try simp only [Act.put, List.getElem_toArray, List.getElem_cons_succ, List.getElem_cons_zero, List.setIfInBounds_toArray, List.set_cons_succ, List.set_cons_zero]
        refine wpAnyH_take (i := 11) (v := .bool true) rfl (by kernel_rfl) (by kernel_rfl) (by kernel_rfl) (fun _ _ _ h => h) (Or.inl ⟨by rfl, ?_⟩) hHeld2 ?_
        · intro w hSw
          try dsimp only at hSw
          go_simp
        simp only [Act.put, List.getElem_toArray, List.getElem_cons_succ, List.getElem_cons_zero, List.setIfInBounds_toArray, List.set_cons_succ, List.set_cons_zero]
        refine wpAnyH_take (i := 12) (v := .string ⟨es.toArray⟩) rfl (by kernel_rfl) (by kernel_rfl) (by kernel_rfl) (fun _ _ _ h => h) (Or.inl ⟨by rfl, ?_⟩) hHeld2 ?_
        · intro w hSw
          try dsimp only at hSw
          go_simp
        simp only [Act.put, List.getElem_toArray, List.getElem_cons_succ, List.getElem_cons_zero, List.setIfInBounds_toArray, List.set_cons_succ, List.set_cons_zero]
        refine wpAnyH_take (i := 13) (v := .int .i64 ((m : Int) + 1)) rfl (by kernel_rfl) (by kernel_rfl) (by kernel_rfl) (fun _ _ _ h => h) (Or.inl ⟨by rfl, ?_⟩) hHeld2 ?_
        · intro w hSw
          try dsimp only at hSw
          go_simp
        simp only [Act.put, List.getElem_toArray, List.getElem_cons_succ, List.getElem_cons_zero, List.setIfInBounds_toArray, List.set_cons_succ, List.set_cons_zero]
        refine wpAnyH_take (i := 14) (v := .bool true) rfl (by kernel_rfl) (by kernel_rfl) (by kernel_rfl) (fun _ _ _ h => h) (Or.inl ⟨by rfl, ?_⟩) hHeld2 ?_
        · intro w hSw
          try dsimp only at hSw
          go_simp
        simp only [Act.put, List.getElem_toArray, List.getElem_cons_succ, List.getElem_cons_zero, List.setIfInBounds_toArray, List.set_cons_succ, List.set_cons_zero]
        refine wpAnyH_done (by kernel_rfl) ?_ _
        have BF := Lib.hid (HQ.out.below.trans (hHeld2.2.out.mono HQ.out.below.size))
        clear hHeld2 HSD hmg hix hc hmi k34
        go_wp2_with fail
        go_ret3
        exact runqPost_yes (n := m + 1) (by omega) HM.out.2 HQE.out (fun t rest e => HQ.out.cond.close HC.out e) BF.out
      · have hbe : (quoteL es == X.toList) = false := bytes_bne hXl hq
        have HNO := Lib.hid (show UnqN s.data.toList from fun t rest e => by
          obtain ⟨h1, h2⟩ := HQ.out.cond.close HC.out e
          refine hq ?_
          rw [h1, h2, e, List.take_left])
        clear hq hXl
        refine wp_region_held_drew (S := fun w' => (convert 56 9 (.slice ao es.length cp)).run Tryz.prog w' = .ok (.string ⟨es.toArray⟩) w' ∧ Hid (Below wr.heap.size wr w')) (by kernel_rfl) HSD (fun hHeld => ?_)
        refine wpAnyH_take (i := 0) (v := .slice ao es.length cp) rfl (by kernel_rfl) (by kernel_rfl) (by kernel_rfl) (fun _ _ _ h => h) (Or.inl ⟨by rfl, ?_⟩) hHeld ?_
        · intro w hSw
          try dsimp only at hSw
          go_simp
        simp only [Act.put, List.getElem_toArray, List.getElem_cons_zero, List.setIfInBounds_toArray, List.set_cons_succ, List.set_cons_zero]
        refine wpAnyH_take (i := 1) (v := .string ⟨es.toArray⟩) rfl (by kernel_rfl) (by kernel_rfl) (by kernel_rfl) (fun _ _ _ h => h) (Or.inl ⟨by rfl, ?_⟩) hHeld ?_
        · intro w hSw
          try dsimp only at hSw
          go_simp
        simp only [Act.put, List.getElem_toArray, List.getElem_cons_succ, List.getElem_cons_zero, List.setIfInBounds_toArray, List.set_cons_succ, List.set_cons_zero]
        refine wpAnyH_take (i := 2) (v := .int .i64 (m : Int)) rfl (by kernel_rfl) (by kernel_rfl) (by kernel_rfl) (fun _ _ _ h => h) (Or.inl ⟨by rfl, ?_⟩) hHeld ?_
        · intro w hSw
          try dsimp only at hSw
          go_simp
        simp only [Act.put, List.getElem_toArray, List.getElem_cons_succ, List.getElem_cons_zero, List.setIfInBounds_toArray, List.set_cons_succ, List.set_cons_zero]
        refine wpAnyH_take (i := 3) (v := .int .i64 ((m : Int) + 1)) rfl (by kernel_rfl) (by kernel_rfl) (by kernel_rfl) (fun _ _ _ h => h) (Or.inl ⟨by rfl, ?_⟩) hHeld ?_
        · intro w hSw
          try dsimp only at hSw
          go_simp
        simp only [Act.put, List.getElem_toArray, List.getElem_cons_succ, List.getElem_cons_zero, List.setIfInBounds_toArray, List.set_cons_succ, List.set_cons_zero]
        refine wpAnyH_take (i := 4) (v := .slice ao es.length cp) rfl (by kernel_rfl) (by kernel_rfl) (by kernel_rfl) (fun _ _ _ h => h) (Or.inl ⟨by rfl, ?_⟩) hHeld ?_
        · intro w hSw
          try dsimp only at hSw
          go_simp
        simp only [Act.put, List.getElem_toArray, List.getElem_cons_succ, List.getElem_cons_zero, List.setIfInBounds_toArray, List.set_cons_succ, List.set_cons_zero]
        refine wpAnyH_take (i := 5) (v := .string ⟨es.toArray⟩) rfl (by kernel_rfl) (by kernel_rfl) (by kernel_rfl) (fun _ _ _ h => h) (Or.inl ⟨by rfl, ?_⟩) hHeld ?_
        · intro w hSw
          try dsimp only at hSw
          go_simp
        simp only [Act.put, List.getElem_toArray, List.getElem_cons_succ, List.getElem_cons_zero, List.setIfInBounds_toArray, List.set_cons_succ, List.set_cons_zero]
        refine wpAnyH_take (i := 7) (v := .string s) rfl (by kernel_rfl) (by kernel_rfl) (by kernel_rfl) (fun _ _ _ h => h) (Or.inl ⟨by rfl, ?_⟩) hHeld ?_
        · intro w hSw
          try dsimp only at hSw
          go_simp
        simp only [Act.put, List.getElem_toArray, List.getElem_cons_succ, List.getElem_cons_zero, List.setIfInBounds_toArray, List.set_cons_succ, List.set_cons_zero]
        refine wpAnyH_take (i := 8) (v := .int .i64 (m : Int)) rfl (by kernel_rfl) (by kernel_rfl) (by kernel_rfl) (fun _ _ _ h => h) (Or.inl ⟨by rfl, ?_⟩) hHeld ?_
        · intro w hSw
          try dsimp only at hSw
          go_simp
        simp only [Act.put, List.getElem_toArray, List.getElem_cons_succ, List.getElem_cons_zero, List.setIfInBounds_toArray, List.set_cons_succ, List.set_cons_zero]
        refine wpAnyH_take (i := 9) (v := .int .i64 ((m : Int) + 1)) rfl (by kernel_rfl) (by kernel_rfl) (by kernel_rfl) (fun _ _ _ h => h) (Or.inl ⟨by rfl, ?_⟩) hHeld ?_
        · intro w hSw
          try dsimp only at hSw
          go_simp
        simp only [Act.put, List.getElem_toArray, List.getElem_cons_succ, List.getElem_cons_zero, List.setIfInBounds_toArray, List.set_cons_succ, List.set_cons_zero]
        refine wpAnyH_take (i := 10) (v := .string X) rfl (by kernel_rfl) (by kernel_rfl) (by kernel_rfl) (fun _ _ _ h => h) (Or.inl ⟨by rfl, ?_⟩) hHeld ?_
        · intro w hSw
          try dsimp only at hSw
          go_simp
        simp only [Act.put, List.getElem_toArray, List.getElem_cons_succ, List.getElem_cons_zero, List.setIfInBounds_toArray, List.set_cons_succ, List.set_cons_zero]
        refine wpAnyH_ready (rs := [6]) (by kernel_rfl) (by simp) ?_
        refine AllReadyH.cons rfl (fun K hK => ?_) AllReadyH.nil
        go_simp
        go_at_call 56
        with_reducible refine (HQU.out _).mono ?_
        rintro e w' ⟨rfl, hb⟩
        try dsimp only
        refine hK.out _ _ (HST.out _ _ hHeld hb) (fun hHeld2 => ?_)
        clear hK K hb hHeld
        try simp only [Act.put, List.getElem_toArray, List.getElem_cons_succ, List.getElem_cons_zero, List.setIfInBounds_toArray, List.set_cons_succ, List.set_cons_zero]
        refine wpAnyH_take (i := 11) (v := .bool false) rfl (by kernel_rfl) (by kernel_rfl) (by kernel_rfl) (fun _ _ _ h => h) (Or.inl ⟨by rfl, ?_⟩) hHeld2 ?_
        · intro w hSw
          try dsimp only at hSw
          go_simp
        simp only [Act.put, List.getElem_toArray, List.getElem_cons_succ, List.getElem_cons_zero, List.setIfInBounds_toArray, List.set_cons_succ, List.set_cons_zero]
        refine wpAnyH_take (i := 12) (v := .string ⟨es.toArray⟩) rfl (by kernel_rfl) (by kernel_rfl) (by kernel_rfl) (fun _ _ _ h => h) (Or.inl ⟨by rfl, ?_⟩) hHeld2 ?_
        · intro w hSw
          try dsimp only at hSw
          go_simp
        simp only [Act.put, List.getElem_toArray, List.getElem_cons_succ, List.getElem_cons_zero, List.setIfInBounds_toArray, List.set_cons_succ, List.set_cons_zero]
        refine wpAnyH_take (i := 13) (v := .int .i64 ((m : Int) + 1)) rfl (by kernel_rfl) (by kernel_rfl) (by kernel_rfl) (fun _ _ _ h => h) (Or.inl ⟨by rfl, ?_⟩) hHeld2 ?_
        · intro w hSw
          try dsimp only at hSw
          go_simp
        simp only [Act.put, List.getElem_toArray, List.getElem_cons_succ, List.getElem_cons_zero, List.setIfInBounds_toArray, List.set_cons_succ, List.set_cons_zero]
        refine wpAnyH_take (i := 14) (v := .bool false) rfl (by kernel_rfl) (by kernel_rfl) (by kernel_rfl) (fun _ _ _ h => h) (Or.inl ⟨by rfl, ?_⟩) hHeld2 ?_
        · intro w hSw
          try dsimp only at hSw
          go_simp
        simp only [Act.put, List.getElem_toArray, List.getElem_cons_succ, List.getElem_cons_zero, List.setIfInBounds_toArray, List.set_cons_succ, List.set_cons_zero]
        refine wpAnyH_done (by kernel_rfl) ?_ _
        have BF := Lib.hid (HQ.out.below.trans (hHeld2.2.out.mono HQ.out.below.size))
        clear hHeld2 HSD hmg hix hc hmi k34
        go_wp2_with fail
        go_ret3
        exact runqPost_no HNO.out BF.out
    have k34 : ¬ (c.toNat : Int) = 34 := by omega
    have C34 := Lib.hid (show c ≠ 34 from fun e => h34 (by rw [e]; rfl))
    clear h34
    by_cases h92 : c.toNat = 92
    rotate_left
    · have k92 : ¬ (c.toNat : Int) = 92 := by omega
      have C92 := Lib.hid (show c ≠ 92 from fun e => h92 (by rw [e]; rfl))
      clear h92
      go_wp2_with (at_builtin; refine wp_append_u8 rfl _ _ rfl [c] HO.out HZ.out HN.out (Nat.le_of_ble_eq_true rfl) rfl rfl rfl ?_; intro ao2 c2 w2 hown hbel; have HO2 := Lib.hid hown; have HB2 := Lib.hid hbel; clear hown hbel)
      go_roundw
      case rel => exact ⟨m + 1, ao2, c2, es ++ [c], by omega, by have := HM.out; omega, by go_num, by rw [List.length_append]; rfl, HO2.out, HQ.out.below.trans HB2.out, by have := HQ.out.few; rw [List.length_append, List.length_singleton]; omega, HQ.out.cond.plain HG.out C34.out C92.out⟩
      case measure => have := HM.out; simp only [intOf]; omega
    have k92 : (c.toNat : Int) = 92 := by omega
    have HC := Lib.hid (show s.data.toList[m]? = some 92 by rw [HG.out, UInt8.toNat_inj.1 (show c.toNat = (92 : UInt8).toNat from h92)])
    clear h92 C34
    by_cases hlt1 : m + 1 < s.size
    rotate_left
    · have hge1 : (s.size : Int) ≤ (m : Int) + 1 := by omega
      have hn := Lib.hid (show UnqN s.data.toList from HQ.out.cond.no_end HC.out (List.getElem?_eq_none (by rw [← size_eq]; omega)))
      clear hlt1
      go_wp2_with fail
      go_ret3
      exact runqPost_no hn.out HQ.out.below
    have hge1 : ¬ (s.size : Int) ≤ (m : Int) + 1 := by omega
    have hix1 := fun w => ix_at (s := s) (z := (m : Int) + 1) (by omega) hlt1 w
    have hget1 := get_at hlt1
    have hd := (s[m + 1]'hlt1).toNat_lt
    generalize s[m + 1]'hlt1 = d at hix1 hget1 hd
    have HD := Lib.hid hget1
    have HM1 := Lib.hid hlt1
    clear hget1
    by_cases d110 : d.toNat = 110
    · have kd : (d.toNat : Int) = 110 := by omega
      have HD2 := Lib.hid (show s.data.toList[m + 1]? = some 110 by rw [HD.out, UInt8.toNat_inj.1 (show d.toNat = (110 : UInt8).toNat from d110)])
      clear d110 hlt1
      go_wp2_with (at_builtin; refine wp_append_u8 rfl _ _ rfl [10] HO.out HZ.out HN.out (Nat.le_of_ble_eq_true rfl) rfl rfl rfl ?_; intro ao2 c2 w2 hown hbel; have HO2 := Lib.hid hown; have HB2 := Lib.hid hbel; clear hown hbel)
      go_roundw
      case rel => exact ⟨m + 2, ao2, c2, es ++ [10], by omega, by have := HM.out; omega, by go_num, by rw [List.length_append]; rfl, HO2.out, HQ.out.below.trans HB2.out, by have := HQ.out.few; rw [List.length_append, List.length_singleton]; omega, HQ.out.cond.line HC.out HD2.out⟩
      case measure => have := HM.out; simp only [intOf]; omega
    have kd110 : ¬ (d.toNat : Int) = 110 := by omega
    have D110 := Lib.hid (show d ≠ 110 from fun e => d110 (by rw [e]; rfl))
    clear d110
    by_cases d120 : d.toNat = 120
    rotate_left
    · have kd120 : ¬ (d.toNat : Int) = 120 := by omega
      have D120 := Lib.hid (show d ≠ 120 from fun e => d120 (by rw [e]; rfl))
      clear d120
      by_cases d34 : d.toNat = 34
      · have kd : (d.toNat : Int) = 34 := by omega
        have D34 := Lib.hid (show d = 34 from UInt8.toNat_inj.1 (show d.toNat = (34 : UInt8).toNat from d34))
        clear d34 hlt1
        go_wp2_with (at_builtin; refine wp_append_u8 rfl _ _ rfl [34] HO.out HZ.out HN.out (Nat.le_of_ble_eq_true rfl) rfl rfl rfl ?_; intro ao2 c2 w2 hown hbel; have HO2 := Lib.hid hown; have HB2 := Lib.hid hbel; clear hown hbel)
        go_roundw
        case rel => exact ⟨m + 2, ao2, c2, es ++ [34], by omega, by have := HM.out; omega, by go_num, by rw [List.length_append]; rfl, HO2.out, HQ.out.below.trans HB2.out, by have := HQ.out.few; rw [List.length_append, List.length_singleton]; omega, (by have h := HQ.out.cond.two HC.out HD.out (.inl D34.out); rw [D34.out] at h; exact h)⟩
        case measure => have := HM.out; simp only [intOf]; omega
      have kd34 : ¬ (d.toNat : Int) = 34 := by omega
      by_cases d92 : d.toNat = 92
      · have kd : (d.toNat : Int) = 92 := by omega
        have D92 := Lib.hid (show d = 92 from UInt8.toNat_inj.1 (show d.toNat = (92 : UInt8).toNat from d92))
        clear d92 hlt1 d34
        go_wp2_with (at_builtin; refine wp_append_u8 rfl _ _ rfl [92] HO.out HZ.out HN.out (Nat.le_of_ble_eq_true rfl) rfl rfl rfl ?_; intro ao2 c2 w2 hown hbel; have HO2 := Lib.hid hown; have HB2 := Lib.hid hbel; clear hown hbel)
        go_roundw
        case rel => exact ⟨m + 2, ao2, c2, es ++ [92], by omega, by have := HM.out; omega, by go_num, by rw [List.length_append]; rfl, HO2.out, HQ.out.below.trans HB2.out, by have := HQ.out.few; rw [List.length_append, List.length_singleton]; omega, (by have h := HQ.out.cond.two HC.out HD.out (.inr D92.out); rw [D92.out] at h; exact h)⟩
        case measure => have := HM.out; simp only [intOf]; omega
      have kd92 : ¬ (d.toNat : Int) = 92 := by omega
      have hn := Lib.hid (show UnqN s.data.toList from HQ.out.cond.no_esc HC.out HD.out (fun e => d34 (by rw [e]; rfl)) (fun e => d92 (by rw [e]; rfl)) D110.out (fun e => absurd e D120.out))
      clear hlt1 d34 d92
      go_wp2_with fail
      go_ret3
      exact runqPost_no hn.out HQ.out.below
    have kd120 : (d.toNat : Int) = 120 := by omega
    have HD2 := Lib.hid (show s.data.toList[m + 1]? = some 120 by rw [HD.out, UInt8.toNat_inj.1 (show d.toNat = (120 : UInt8).toNat from d120)])
    have D34 := Lib.hid (show d ≠ 34 from fun e => by rw [e] at d120; exact absurd d120 (by decide))
    have D92 := Lib.hid (show d ≠ 92 from fun e => by rw [e] at d120; exact absurd d120 (by decide))
    clear d120
    by_cases hlt3 : m + 3 < s.size
    rotate_left
    · have h3 : ¬ (m : Int) + 1 + 1 + 1 < (s.size : Int) := by omega
      have hn := Lib.hid (show UnqN s.data.toList from HQ.out.cond.no_esc HC.out HD.out D34.out D92.out D110.out (fun _ => by
        rintro ⟨a, b, _, hb, _⟩
        rw [List.getElem?_eq_none (by rw [← size_eq]; omega)] at hb
        cases hb))
      clear hlt1 hlt3
      go_wp2_with fail
      go_ret3
      exact runqPost_no hn.out HQ.out.below
    have h3 : (m : Int) + 1 + 1 + 1 < (s.size : Int) := by omega
    have hlt2 : m + 2 < s.size := by omega
    have hix2 := fun w => ix_at (s := s) (z := (m : Int) + 1 + 1) (by omega) hlt2 w
    have hix3 := fun w => ix_at (s := s) (z := (m : Int) + 1 + 1 + 1) (by omega) hlt3 w
    have hget2 := get_at hlt2
    have hget3 := get_at hlt3
    generalize s[m + 2]'hlt2 = a at hix2 hget2
    generalize s[m + 3]'hlt3 = b at hix3 hget3
    have HA := Lib.hid hget2
    have HB := Lib.hid hget3
    have HM3 := Lib.hid hlt3
    clear hget2 hget3 hlt1 hlt2 hlt3
    by_cases ha : 0 ≤ nibU a
    rotate_left
    · have hn := Lib.hid (show UnqN s.data.toList from HQ.out.cond.no_esc HC.out HD.out D34.out D92.out D110.out (fun _ => by
        rintro ⟨x, y, hx, _, h, _⟩
        rw [HA.out] at hx
        injection hx with hx
        rw [hx] at ha
        exact ha h))
      go_wp2_with fail
      refine (Rnibble_any a _).mono ?_
      rintro e w9 ⟨rfl, rfl⟩
      go_wp2_with fail
      go_ret3
      exact runqPost_no hn.out HQ.out.below
    by_cases hb : 0 ≤ nibU b
    rotate_left
    · have hn := Lib.hid (show UnqN s.data.toList from HQ.out.cond.no_esc HC.out HD.out D34.out D92.out D110.out (fun _ => by
        rintro ⟨x, y, _, hy, _, h⟩
        rw [HB.out] at hy
        injection hy with hy
        rw [hy] at hb
        exact hb h))
      go_wp2_with fail
      refine (Rnibble_any a _).mono ?_
      rintro e w9 ⟨rfl, rfl⟩
      go_wp2_with fail
      refine (Rnibble_any b _).mono ?_
      rintro e w9 ⟨rfl, rfl⟩
      go_wp2_with fail
      go_ret3
      exact runqPost_no hn.out HQ.out.below
    have ha16 := nibU_lt a
    have hb16 := nibU_lt b
    obtain ⟨x, hx⟩ := u8_of (16 * nibU a + nibU b) (by omega) (by omega)
    have HX := Lib.hid hx
    have hw1 : IntKind.u8.wrap (16 * nibU a + nibU b) = (x.toNat : Int) := by rw [IntKind.wrap_u8]; omega
    clear hx
    go_wp2_with fail
    refine (Rnibble_any a _).mono ?_
    rintro e w9 ⟨rfl, rfl⟩
    go_wp2_with fail
    refine (Rnibble_any b _).mono ?_
    rintro e w9 ⟨rfl, rfl⟩
    go_wp2_with fail
    have q1 : IntKind.i64.wrap ((m : Int) + 1 + 1 + 1) = (m : Int) + 1 + 1 + 1 := by rw [IntKind.wrap_i64]; omega
    have q2 : IntKind.i64.wrap (16 * nibU a) = 16 * nibU a := by rw [IntKind.wrap_i64]; omega
    have q3 : IntKind.i64.wrap (16 * nibU a + nibU b) = 16 * nibU a + nibU b := by rw [IntKind.wrap_i64]; omega
    have HSD : Hid (Below wr.heap.size wr wr.drew) := (Below.refl wr.heap.size wr).drew
    refine wp_region_held_drew (S := fun w' => Hid (Below wr.heap.size wr w')) (by kernel_rfl) HSD (fun hHeld => ?_)
    refine wpAnyH_take (i := 0) (v := .string s) rfl (by kernel_rfl) (by kernel_rfl) (by kernel_rfl) (fun _ _ _ h => h) (Or.inl ⟨by rfl, ?_⟩) hHeld ?_
    · intro w hSw
      try dsimp only at hSw
      go_simp
    simp only [Act.put, List.getElem_toArray, List.getElem_cons_zero, List.setIfInBounds_toArray, List.set_cons_succ, List.set_cons_zero]
    refine wpAnyH_take (i := 1) (v := .int .i64 ((m : Int) + 1 + 1)) rfl (by kernel_rfl) (by kernel_rfl) (by kernel_rfl) (fun _ _ _ h => h) (Or.inl ⟨by rfl, ?_⟩) hHeld ?_
    · intro w hSw
      try dsimp only at hSw
      go_simp
    simp only [Act.put, List.getElem_toArray, List.getElem_cons_succ, List.getElem_cons_zero, List.setIfInBounds_toArray, List.set_cons_succ, List.set_cons_zero]
    refine wpAnyH_take (i := 2) (v := .int .u8 (a.toNat : Int)) rfl (by kernel_rfl) (by kernel_rfl) (by kernel_rfl) (fun _ _ _ h => h) (Or.inl ⟨by rfl, ?_⟩) hHeld ?_
    · intro w hSw
      try dsimp only at hSw
      go_simp
    simp only [Act.put, List.getElem_toArray, List.getElem_cons_succ, List.getElem_cons_zero, List.setIfInBounds_toArray, List.set_cons_succ, List.set_cons_zero]
    refine wpAnyH_take (i := 5) (v := .string s) rfl (by kernel_rfl) (by kernel_rfl) (by kernel_rfl) (fun _ _ _ h => h) (Or.inl ⟨by rfl, ?_⟩) hHeld ?_
    · intro w hSw
      try dsimp only at hSw
      go_simp
    simp only [Act.put, List.getElem_toArray, List.getElem_cons_succ, List.getElem_cons_zero, List.setIfInBounds_toArray, List.set_cons_succ, List.set_cons_zero]
    refine wpAnyH_take (i := 6) (v := .int .i64 ((m : Int) + 1 + 1)) rfl (by kernel_rfl) (by kernel_rfl) (by kernel_rfl) (fun _ _ _ h => h) (Or.inl ⟨by rfl, ?_⟩) hHeld ?_
    · intro w hSw
      try dsimp only at hSw
      go_simp
    simp only [Act.put, List.getElem_toArray, List.getElem_cons_succ, List.getElem_cons_zero, List.setIfInBounds_toArray, List.set_cons_succ, List.set_cons_zero]
    refine wpAnyH_take (i := 7) (v := .int .i64 ((m : Int) + 1 + 1 + 1)) rfl (by kernel_rfl) (by kernel_rfl) (by kernel_rfl) (fun _ _ _ h => h) (Or.inl ⟨by rfl, ?_⟩) hHeld ?_
    · intro w hSw
      try dsimp only at hSw
      go_simp
    simp only [Act.put, List.getElem_toArray, List.getElem_cons_succ, List.getElem_cons_zero, List.setIfInBounds_toArray, List.set_cons_succ, List.set_cons_zero]
    refine wpAnyH_take (i := 8) (v := .int .u8 (b.toNat : Int)) rfl (by kernel_rfl) (by kernel_rfl) (by kernel_rfl) (fun _ _ _ h => h) (Or.inl ⟨by rfl, ?_⟩) hHeld ?_
    · intro w hSw
      try dsimp only at hSw
      go_simp
    simp only [Act.put, List.getElem_toArray, List.getElem_cons_succ, List.getElem_cons_zero, List.setIfInBounds_toArray, List.set_cons_succ, List.set_cons_zero]
    refine wpAnyH_ready (rs := [3]) (by kernel_rfl) (by simp) ?_
    refine AllReadyH.cons rfl (fun K hK => ?_) AllReadyH.nil
    go_simp
    go_at_call 84
    refine (Rnibble_any _ _).mono ?_
    rintro e w' ⟨rfl, rfl⟩
    try dsimp only
    refine hK.out _ _ hHeld (fun hHeld2 => ?_)
    clear hK K
    try simp only [Act.put, List.getElem_toArray, List.getElem_cons_succ, List.getElem_cons_zero, List.setIfInBounds_toArray, List.set_cons_succ, List.set_cons_zero]
    refine wpAnyH_take (i := 4) (v := .int .i64 (16 * nibU a)) rfl (by kernel_rfl) (by kernel_rfl) (by kernel_rfl) (fun _ _ _ h => h) (Or.inl ⟨by rfl, ?_⟩) hHeld2 ?_
    · intro w hSw
      try dsimp only at hSw
      go_simp
    simp only [Act.put, List.getElem_toArray, List.getElem_cons_succ, List.getElem_cons_zero, List.setIfInBounds_toArray, List.set_cons_succ, List.set_cons_zero]
    refine wpAnyH_ready (rs := [9]) (by kernel_rfl) (by simp) ?_
    refine AllReadyH.cons rfl (fun K hK => ?_) AllReadyH.nil
    go_simp
    go_at_call 84
    refine (Rnibble_any _ _).mono ?_
    rintro e w' ⟨rfl, rfl⟩
    try dsimp only
    refine hK.out _ _ hHeld2 (fun hHeld3 => ?_)
    clear hK K
    try simp only [Act.put, List.getElem_toArray, List.getElem_cons_succ, List.getElem_cons_zero, List.setIfInBounds_toArray, List.set_cons_succ, List.set_cons_zero]
    refine wpAnyH_take (i := 10) (v := .int .i64 (16 * nibU a + nibU b)) rfl (by kernel_rfl) (by kernel_rfl) (by kernel_rfl) (fun _ _ _ h => h) (Or.inl ⟨by rfl, ?_⟩) hHeld3 ?_
    · intro w hSw
      try dsimp only at hSw
      go_simp
    simp only [Act.put, List.getElem_toArray, List.getElem_cons_succ, List.getElem_cons_zero, List.setIfInBounds_toArray, List.set_cons_succ, List.set_cons_zero]
    refine wpAnyH_take (i := 11) (v := .int .u8 (x.toNat : Int)) rfl (by kernel_rfl) (by kernel_rfl) (by kernel_rfl) (fun _ _ _ h => h) (Or.inl ⟨by rfl, ?_⟩) hHeld3 ?_
    · intro w hSw
      try dsimp only at hSw
      go_simp
    simp only [Act.put, List.getElem_toArray, List.getElem_cons_succ, List.getElem_cons_zero, List.setIfInBounds_toArray, List.set_cons_succ, List.set_cons_zero]
    refine wpAnyH_take (i := 12) (v := .int .u8 (x.toNat : Int)) rfl (by kernel_rfl) (by kernel_rfl) (by kernel_rfl) (fun _ _ _ h => h) (Or.inl ⟨by rfl, ?_⟩) hHeld3 ?_
    · intro w hSw
      try dsimp only at hSw
      go_simp
    simp only [Act.put, List.getElem_toArray, List.getElem_cons_succ, List.getElem_cons_zero, List.setIfInBounds_toArray, List.set_cons_succ, List.set_cons_zero]
    refine wpAnyH_done (by kernel_rfl) ?_ _
    have HOD := Lib.hid HO.out.drew
    have HZD := Lib.hid (show w.heap.size ≤ wr.drew.heap.size from HZ.out)
    have HBD := Lib.hid (HQ.out.below.drew)
    have HCD := Lib.hid HQ.out.cond
    have HFD := Lib.hid HQ.out.few
    clear hHeld hHeld2 hHeld3 HSD HO HZ HQ q1 q2 q3 hix2 hix3 hw1 ha hb ha16 hb16
    generalize wr.drew = w3 at HOD HZD HBD ⊢
    go_wp2_with (at_builtin; refine wp_append_u8 rfl _ _ rfl [x] HOD.out HZD.out HN.out (Nat.le_of_ble_eq_true rfl) rfl rfl rfl ?_; intro ao2 c2 w2 hown hbel; have HO2 := Lib.hid hown; have HB2 := Lib.hid hbel; clear hown hbel)
    go_roundw
    case rel => exact ⟨m + 4, ao2, c2, es ++ [x], by omega, by have := HM3.out; omega, by go_num, by rw [List.length_append]; rfl, HO2.out, HBD.out.trans HB2.out, by have := HFD.out; rw [List.length_append, List.length_singleton]; omega, HCD.out.hex HC.out HD2.out HA.out HB.out HX.out⟩
    case measure => have := HM3.out; simp only [intOf]; omega
end Go.Proofs.YtiofnjnaleglgaaGreatDoor
