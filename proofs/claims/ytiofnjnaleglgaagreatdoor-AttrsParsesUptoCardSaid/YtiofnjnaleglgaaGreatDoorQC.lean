/-
  Texts of mine in one file: KAtSF, KAtRX.
-/
import Derived.Test.YtiofnjnaleglgaaGreatDoorQNU
import Derived.Test.YtiofnjnaleglgaaGreatDoorG27
import Derived.Test.YtiofnjnaleglgaaGreatDoorHAtRR
/-
  The reference's 'Split' by its contract, with where its result lies.
-/
namespace Go.Proofs.YtiofnjnaleglgaaGreatDoor
open Go.RowKit

def SplitFPost (s : ByteArray) (w : World) (e : Ending) (w' : World) : Prop :=
  Below w.heap.size w w' ∧ ((splitR s.data.toList = none ∧ e = .returned (.tuple #[.slice none 0 0, .bool false])) ∨
    ∃ (ps : List ByteArray) (ao : Option Addr) (c : Nat), splitR s.data.toList = some (ps.map (·.data.toList)) ∧ StrsAt w' ao ps ∧ ps.length ≤ c ∧ (∀ x, ao = some x → w.heap.size ≤ x.block) ∧ e = .returned (.tuple #[.slice ao ps.length c, .bool (decide (ps.length ≤ 100))]))
theorem splitF_end {s : ByteArray} {w w' : World} (h : splitR s.data.toList = none) (hb : Below w.heap.size w w') : SplitFPost s w (.returned (.tuple #[.slice none 0 0, .bool false])) w' := ⟨hb, .inl ⟨h, rfl⟩⟩
theorem splitF_yes {s : ByteArray} {ps : List ByteArray} {x : ByteArray} {w w' : World} {ao : Option Addr} {c : Nat} {b : Bool} (h : splitR s.data.toList = some ((ps ++ [x]).map (·.data.toList))) (hb : Below w.heap.size w w') (hst : StrsAt w' ao (ps ++ [x])) (hc : ps.length + 1 ≤ c) (hf : ∀ x, ao = some x → w.heap.size ≤ x.block)
    (h1 : decide (ps.length + 1 ≤ 100) = b) : SplitFPost s w (.returned (.tuple #[.slice ao (ps.length + 1) c, .bool b])) w' :=
  ⟨hb, .inr ⟨ps ++ [x], ao, c, h, hst, by rw [List.length_append, List.length_singleton]; exact hc, hf, by rw [List.length_append, List.length_singleton, h1]⟩⟩

set_option maxHeartbeats 16000000 in
set_option maxRecDepth 100000 in
theorem SplitF_any (s : ByteArray) (hs : s.size ≤ 1048576) (w : World) : Calls Tryz.prog 62 #[.string s] w (SplitFPost s w) := by
  by_cases h2 : s.size < 2
  · have hr := Lib.hid (show splitR s.data.toList = none by rw [splitR, if_neg (by intro h; have := h.1; simp at this; omega)])
    go_enter Tryz.func62, Tryz.ntmps62
    go_wp2_with fail
    go_ret2
    exact splitF_end hr.out (Below.refl _ _)
  have h0 : 0 < s.size := by omega
  have hlast : s.size - 1 < s.size := by omega
  have h2i : 2 ≤ (s.size : Int) := by omega
  have h2d : decide ((s.size : Int) < 2) = false := decide_eq_false (by omega)
  cases hb0 : (((s[0]'h0).toNat : Int) != 40)
  rotate_left
  · have hr := Lib.hid (show splitR s.data.toList = none by
      rw [splitR, if_neg]
      rintro ⟨_, h, _⟩
      rw [head_at s h0] at h
      exact byte_ne (x := 40) (by decide) hb0 (Option.some.inj h))
    go_enter Tryz.func62, Tryz.ntmps62
    go_wp2_with fail
    go_ret2
    exact splitF_end hr.out (Below.refl _ _)
  cases hb1 : (((s[s.size - 1]'hlast).toNat : Int) != 41)
  rotate_left
  · have hr := Lib.hid (show splitR s.data.toList = none by
      rw [splitR, if_neg]
      rintro ⟨_, _, h⟩
      rw [last_at hlast] at h
      exact byte_ne (x := 41) (by decide) hb1 (Option.some.inj h))
    go_enter Tryz.func62, Tryz.ntmps62
    go_wp2_with fail
    go_ret2
    exact splitF_end hr.out (Below.refl _ _)
  have hin := inner_extract s
  have hsp : splitR s.data.toList = if (s.extract 1 (s.size - 1)).data.toList = [] then some [] else splitL ((s.extract 1 (s.size - 1)).data.toList.length + 1) (s.extract 1 (s.size - 1)).data.toList := by
    rw [splitR, if_pos ⟨by simp; omega, by rw [head_at s h0, byte_is (x := 40) (by decide) hb0], by rw [last_at hlast, byte_is (x := 41) (by decide) hb1]⟩, hin]
  clear hin
  have hqs : (s.extract 1 (s.size - 1)).size ≤ 1048576 := by rw [ByteArray.size_extract]; omega
  by_cases hq0 : (s.extract 1 (s.size - 1)).size = 0
  · have hr := Lib.hid (show splitR s.data.toList = some [] by
      rw [hsp, if_pos (by rw [size_eq] at hq0; exact List.eq_nil_of_length_eq_zero hq0)])
    have HQ := Lib.hid hq0
    clear hsp hq0 hqs
    go_enter Tryz.func62, Tryz.ntmps62
    go_wp2_with fail
    go_loopw [0, 4] (fun q o wr => ∃ q' : ByteArray, q = .string q' ∧ o = .slice none 0 0 ∧ Hid (q'.size = 0) ∧ wr = w) (fun q _ _ => strLen q)
    case atStart => exact ⟨_, rfl, rfl, HQ, rfl⟩
    case round =>
      obtain ⟨q, rfl, rfl, hq, rfl⟩ := hrel
      cases hqe : q.toList.isEmpty
      · have := nonempty_of hqe
        have h := hq.out
        rw [size_eq] at h
        exact absurd (List.eq_nil_of_length_eq_zero h) this
      · go_wp2_with fail
        go_ret2
        exact ⟨Below.refl _ _, .inr ⟨[], none, 0, hr.out, .inl rfl, Nat.le_refl _, fun _ e => (by cases e), rfl⟩⟩
  · rw [if_neg (fun e => hq0 (by rw [size_eq, e]; rfl))] at hsp
    have hst : Hid (SSt w (s.extract 1 (s.size - 1)).data.toList [] (s.extract 1 (s.size - 1)) none 0 w) := SSt.start hqs (by omega)
    obtain ⟨l0, hl0⟩ : ∃ l0, l0 = (s.extract 1 (s.size - 1)).data.toList := ⟨_, rfl⟩
    rw [← hl0] at hst hsp
    have HSP := Lib.hid hsp
    clear hl0 hsp hq0 hqs
    go_enter Tryz.func62, Tryz.ntmps62
    go_wp2_with fail
    go_loopw [0, 4] (fun q o wr => ∃ (q' : ByteArray) (ps : List ByteArray) (ao : Option Addr) (cp : Nat), q = .string q' ∧ o = .slice ao ps.length cp ∧ Hid (SSt w l0 ps q' ao cp wr)) (fun q _ _ => strLen q)
    case atStart => exact ⟨_, [], none, 0, rfl, rfl, hst⟩
    case round =>
      clear hst
      obtain ⟨q, ps, ao, cp, rfl, rfl, HS⟩ := hrel
      have hfew := HS.out.few
      rcases HS.out.empty with hqe | ⟨hqe, hps⟩
      all_goals
        go_wp2_with fail
        go_loopw [5] (fun i w2 => ∃ m : Nat, m ≤ q.size ∧ i = .int .i64 m ∧ Hid ((q.data.toList.take m).all notComma = true) ∧ w2 = wr) (fun i _ => q.size - (intOf i).toNat)
        case atStart => exact ⟨0, Nat.zero_le _, rfl, rfl, rfl⟩
        case round =>
          obtain ⟨m, hms, rfl, hall, rfl⟩ := hrel
          by_cases hlt : m < q.size
          · have hbm := (q[m]'hlt).toNat_lt
            cases hx : (((q[m]'hlt).toNat : Int) != 44)
            · have hst := Lib.hid (stop_at hall.out hlt (notComma_at hx))
              have hmne : ((m : Int) == (q.size : Int)) = false := by rw [beq_eq_false_iff_ne]; omega
              go_wp2_with fail
              refine (Is_ref _ (by rw [ByteArray.size_extract]; omega) _).mono ?_
              rintro e w2 ⟨rfl, hb2⟩
              have HS2 := Lib.hid (HS.out.under hb2)
              clear hb2
              rw [front_extract]
              cases hty : (readR (q.data.toList.take m)).isSome
              · have hy := Lib.hid (HSP.out.trans (HS.out.notTy (show isTyR (q.data.toList.takeWhile notComma) = false by rw [hst.out.1]; exact hty)))
                go_wp2_with fail
                go_ret2
                exact splitF_end hy.out HS2.out.bel
              · have HTY := Lib.hid hty
                by_cases hm1 : m + 1 < q.size
                · have hb32 := (q[m + 1]'hm1).toNat_lt
                  cases h32 : (((q[m + 1]'hm1).toNat : Int) != 32)
                  · have h32e := byte_is (x := 32) (by decide) h32
                    have H32 := Lib.hid h32e
                    clear h32e
                    go_wp2_with (at_builtin; refine wp_append_str rfl _ _ rfl HS2.out.own HS2.out.bel.size (by omega) rfl rfl ?_; intro ao' c' w3 hown hbel; have HOWN := Lib.hid hown; have HBEL := Lib.hid hbel; clear hown hbel)
                    go_roundw
                    case rel => exact ⟨_, ps ++ [q.extract 0 m], ao', c', rfl, by rw [List.length_append, List.length_singleton], HS2.out.next hm1 hst.out HTY.out H32.out HOWN.out HBEL.out⟩
                    case measure => simp only [strLen, ByteArray.size_extract]; omega
                  · have hy := Lib.hid (HSP.out.trans (HS.out.noGap (by rw [hst.out.2]; simp) (by
                      rw [hst.out.2, List.tail_cons, List.drop_eq_getElem_cons (by simpa using hm1), List.head?_cons]
                      exact fun h => byte_ne (x := 32) (by decide) h32 (Option.some.inj h))))
                    go_wp2_with (at_builtin; refine wp_append_str rfl _ _ rfl HS2.out.own HS2.out.bel.size (by omega) rfl rfl ?_; intro ao' c' w3 hown hbel; have HBEL := Lib.hid (HS2.out.bel.trans hbel); clear hown hbel)
                    all_goals
                      go_ret2
                      exact splitF_end hy.out HBEL.out
                · have hy := Lib.hid (HSP.out.trans (HS.out.noGap (by rw [hst.out.2]; simp) (by
                    rw [hst.out.2, List.tail_cons, List.drop_of_length_le (by simp; omega)]
                    simp)))
                  go_wp2_with (at_builtin; refine wp_append_str rfl _ _ rfl HS2.out.own HS2.out.bel.size (by omega) rfl rfl ?_; intro ao' c' w3 hown hbel; have HBEL := Lib.hid (HS2.out.bel.trans hbel); clear hown hbel)
                  go_ret2
                  exact splitF_end hy.out HBEL.out
            · have hnx := Lib.hid (notComma_at hx)
              go_wp2_with fail
              go_roundw
              case rel => exact ⟨m + 1, by omega, by go_num, all_step hall.out hlt hnx.out, trivial⟩
              case measure => simp [intOf]; omega
          · obtain rfl : m = q.size := by omega
            have hal := hall.out
            rw [List.take_of_length_le (by simp)] at hal
            have HAL := Lib.hid hal
            clear hal
            go_wp2_with fail
            refine (Is_ref q (by omega) _).mono ?_
            rintro e w2 ⟨rfl, hb2⟩
            have HS2 := Lib.hid (HS.out.under hb2)
            clear hb2
            cases hty : (readR q.data.toList).isSome
            · have hy := Lib.hid (HSP.out.trans (HS.out.notTy (show isTyR (q.data.toList.takeWhile notComma) = false by rw [(tw_all HAL.out).1]; exact hty)))
              go_wp2_with fail
              go_ret2
              exact splitF_end hy.out HS2.out.bel
            · have hy := Lib.hid (HSP.out.trans (HS.out.last hty HAL.out))
              go_wp2_with (at_builtin; refine wp_append_str rfl _ _ rfl HS2.out.own HS2.out.bel.size (by omega) rfl rfl ?_; intro ao' c' w3 hown hbel; have HST := Lib.hid (own_strs hown rfl); have HCP := Lib.hid (own_cap hown); have HFR := Lib.hid (own_fresh hown); have HBEL := Lib.hid (HS2.out.bel.trans hbel); clear hown hbel)
              go_ret2
              exact splitF_yes hy.out HBEL.out HST.out (by have h := HCP.out; rw [List.length_append, List.length_singleton] at h; exact h) HFR.out (by simp only [decide_eq_decide]; omega)

end Go.Proofs.YtiofnjnaleglgaaGreatDoor

/-
  What the reference's 'Read' holds before it asks whether the attribute is right.
-/
namespace Go.Proofs.YtiofnjnaleglgaaGreatDoor
open Go.RowKit

/-- The attribute that stands for a string, if one does. -/
structure RdOK (nm s : ByteArray) (a : At) (ok : Bool) : Prop where
  name : a.name = nm
  wf : ok = true → a.Wf
  short : ok = true → Short a
  sound : ok = true → rightB a = true → valueL a = s.data.toList
  full : ∀ b, rightB b = true → b.Wf → b.name = nm → valueL b = s.data.toList → ok = true ∧ a = b
theorem head_of {s : ByteArray} (h : 0 < s.size) : s.data.toList = (s[0]'h) :: s.data.toList.tail := by
  have := head_at s h
  cases hl : s.data.toList with
  | nil => rw [hl] at this; cases this
  | cons c t => rw [hl, List.head?_cons] at this; injection this with this; rw [this]; rfl
theorem kind_of {s : ByteArray} {c : UInt8} (hh : s.data.toList = c :: s.data.toList.tail) {b : At} (hr : rightB b = true) (hv : valueL b = s.data.toList) :
    b.kind = if c.toNat = 45 ∨ bDigit c = true then 0 else if c.toNat = 34 then 1 else if c.toNat = 64 then 2 else if c.toNat = 91 then 4 else if c.toNat = 40 then 5 else 3 := by
  have h := kind_value hr
  rw [hv, hh, kindL] at h
  exact h.symm
theorem rd_none {nm s : ByteArray} (h : s.size = 0) : ∀ b : At, rightB b = true → b.Wf → b.name = nm → valueL b ≠ s.data.toList := by
  intro b hr _ _ hv
  have he : s.data.toList = [] := by rw [size_eq] at h; exact List.eq_nil_of_length_eq_zero h
  have hk : b.kind = 3 := by
    have := kind_value hr
    rw [hv, he] at this
    exact this.symm
  obtain ⟨t, hb, hval⟩ := canon_type hr hk
  have ht : isTy t.data.toList = true := by
    obtain ⟨_, ⟨n, z, e⟩ | ⟨n, t', e, _⟩ | ⟨n, t', e, _⟩ | ⟨n, t', e, h1⟩ | ⟨n, zs, e, _⟩ | ⟨n, ss, e, _⟩⟩ := right_cases hr
    · rw [e] at hk; simp at hk
    · rw [e] at hk; simp at hk
    · rw [e] at hk; simp at hk
    · rw [e] at hb
      injection hb with _ _ _ h4
      rw [← h4]; exact h1
    · rw [e] at hk; simp at hk
    · rw [e] at hk; simp at hk
  rw [← hval, hv, he] at ht
  have hf : isTy [] = false := by kernel_rfl
  rw [hf] at ht
  cases ht
theorem flat_more (l : List UInt8) : l.length ≤ (l.flatMap quoteB).length := by
  induction l with
  | nil => exact Nat.le_refl _
  | cons b l ih =>
    have h : 0 < (quoteB b).length := by rcases quote_ways b with h | h | h | h | h <;> (first | rw [h.1] | rw [h]) <;> exact Nat.zero_lt_succ _
    rw [List.flatMap_cons, List.length_append, List.length_cons]
    omega
theorem text_short {s : ByteArray} (hs : s.size ≤ 1048576) {T : List UInt8} {n : Nat} (hq : quoteL T = s.data.toList.take n) : (⟨T.toArray⟩ : ByteArray).size ≤ 9223372036854775807 := by
  have h1 := flat_more T
  have h2 := congrArg List.length hq
  rw [quoteL, List.length_cons, List.length_append, List.length_take, ← size_eq] at h2
  have h3 : (⟨T.toArray⟩ : ByteArray).size = T.length := mk_size _
  omega
theorem types_short {l : List UInt8} {ps : List ByteArray} (hz : splitR l = some (ps.map (·.data.toList))) : ∀ x ∈ ps, x.size ≤ 9223372036854775807 := by
  intro x hx
  have hty : isTyR x.data.toList = true := by
    unfold splitR at hz
    split at hz
    · split at hz
      · injection hz with hz
        cases ps with
        | nil => cases hx
        | cons y r => cases hz
      · exact (split_join _ _ _ hz).2.2 _ (List.mem_map.2 ⟨x, hx, rfl⟩)
    · cases hz
  rw [← isTy_isTyR] at hty
  have := isTy_len hty
  rw [size_eq]
  omega
section
variable {nm s : ByteArray} {c : UInt8}
theorem rd_text_yes (hs : s.size ≤ 1048576) (hh : s.data.toList = c :: s.data.toList.tail) (hc : c.toNat = 34) {T : List UInt8} {n : Nat} (hq : quoteL T = s.data.toList.take n) (hu : ∀ t rest, s.data.toList = quoteL t ++ rest → T = t ∧ n = (quoteL t).length) : RdOK nm s ⟨nm, 1, 0, ⟨T.toArray⟩, [], []⟩ (decide (n = s.size)) := by
  refine ⟨rfl, fun _ => ⟨⟨(by decide : (-9223372036854775808 : Int) ≤ 1), (by decide : (1 : Int) ≤ 9223372036854775807)⟩, ⟨(by decide : (-9223372036854775808 : Int) ≤ 0), (by decide : (0 : Int) ≤ 9223372036854775807)⟩, fun z hz => (by cases hz), Nat.zero_le _, Nat.zero_le _⟩, fun _ => ⟨text_short hs hq, fun x hx => (by cases hx)⟩, fun hok _ => ?_, fun b hr hw hnm hv => ?_⟩
  · have hns := of_decide_eq_true hok
    show quoteL T = _
    rw [hq, hns, size_eq, List.take_length]
  · have hk := kind_of hh hr hv
    rw [if_neg (by rw [digit_iff]; omega), if_pos hc] at hk
    obtain ⟨t, hb, hval⟩ := canon_text hr hk
    have he : s.data.toList = quoteL t.data.toList ++ [] := by rw [List.append_nil, ← hval, hv]
    obtain ⟨h1, h2⟩ := hu _ _ he
    refine ⟨decide_eq_true (by rw [h2, size_eq, he, List.append_nil]), ?_⟩
    rw [hb, hnm, h1]
theorem rd_text_no (hh : s.data.toList = c :: s.data.toList.tail) (hc : c.toNat = 34) (hu : UnqN s.data.toList) (t : ByteArray) : RdOK nm s ⟨nm, 1, 0, t, [], []⟩ false := by
  refine ⟨rfl, fun h => (by cases h), fun h => (by cases h), fun h => (by cases h), fun b hr hw hnm hv => ?_⟩
  have hk := kind_of hh hr hv
  rw [if_neg (by rw [digit_iff]; omega), if_pos hc] at hk
  obtain ⟨t, hb, hval⟩ := canon_text hr hk
  exact absurd (show s.data.toList = quoteL t.data.toList ++ [] by rw [List.append_nil, ← hval, hv]) (hu _ _)
theorem rd_symbol (hs : s.size ≤ 1048576) (hh : s.data.toList = c :: s.data.toList.tail) (hc : c.toNat = 64) {t : ByteArray} (ht : t.data.toList = s.data.toList.tail) : RdOK nm s ⟨nm, 2, 0, t, [], []⟩ true := by
  have hc64 : c = 64 := UInt8.toNat_inj.1 hc
  refine ⟨rfl, fun _ => ⟨⟨(by decide : (-9223372036854775808 : Int) ≤ 2), (by decide : (2 : Int) ≤ 9223372036854775807)⟩, ⟨(by decide : (-9223372036854775808 : Int) ≤ 0), (by decide : (0 : Int) ≤ 9223372036854775807)⟩, fun z hz => (by cases hz), Nat.zero_le _, Nat.zero_le _⟩, fun _ => ⟨by have h := congrArg List.length ht; rw [← size_eq, List.length_tail, ← size_eq] at h; show t.size ≤ _; omega, fun x hx => (by cases hx)⟩, fun _ _ => ?_, fun b hr hw hnm hv => ⟨rfl, ?_⟩⟩
  · show 64 :: t.data.toList = _
    rw [ht, ← hc64]
    exact hh.symm
  · have hk := kind_of hh hr hv
    rw [if_neg (by rw [digit_iff]; omega), if_neg (by omega), if_pos hc] at hk
    obtain ⟨t', hb, hval⟩ := canon_symbol hr hk
    have : t = t' := bytes_inj (by rw [ht, ← hv, hval]; rfl)
    rw [hb, hnm, this]
theorem rd_type (hs : s.size ≤ 1048576) (hh : s.data.toList = c :: s.data.toList.tail) (h1 : ¬ c.toNat = 45) (h2 : bDigit c = false) (h3 : ¬ c.toNat = 34) (h4 : ¬ c.toNat = 64) (h5 : ¬ c.toNat = 91) (h6 : ¬ c.toNat = 40) : RdOK nm s ⟨nm, 3, 0, s, [], []⟩ true := by
  refine ⟨rfl, fun _ => ⟨⟨(by decide : (-9223372036854775808 : Int) ≤ 3), (by decide : (3 : Int) ≤ 9223372036854775807)⟩, ⟨(by decide : (-9223372036854775808 : Int) ≤ 0), (by decide : (0 : Int) ≤ 9223372036854775807)⟩, fun z hz => (by cases hz), Nat.zero_le _, Nat.zero_le _⟩, fun _ => ⟨by show s.size ≤ _; omega, fun x hx => (by cases hx)⟩, fun _ _ => rfl, fun b hr hw hnm hv => ⟨rfl, ?_⟩⟩
  have hk := kind_of hh hr hv
  rw [if_neg (by rw [h2]; simp [h1]), if_neg h3, if_neg h4, if_neg h5, if_neg h6] at hk
  obtain ⟨t', hb, hval⟩ := canon_type hr hk
  have : s = t' := bytes_inj (by rw [← hv, hval])
  rw [hb, hnm, this]
theorem rd_ints_yes (hh : s.data.toList = c :: s.data.toList.tail) (hc : c.toNat = 91) {zs : List Int} (hz : numsR s.data.toList = some zs) (hl : zs.length ≤ 9223372036854775807) : RdOK nm s ⟨nm, 4, 0, ⟨#[]⟩, zs, []⟩ true := by
  obtain ⟨hs, h64⟩ := numsR_sound hz
  refine ⟨rfl, fun _ => ⟨⟨(by decide : (-9223372036854775808 : Int) ≤ 4), (by decide : (4 : Int) ≤ 9223372036854775807)⟩, ⟨(by decide : (-9223372036854775808 : Int) ≤ 0), (by decide : (0 : Int) ≤ 9223372036854775807)⟩, h64, hl, Nat.zero_le _⟩, fun _ => ⟨Nat.zero_le _, fun x hx => (by cases hx)⟩, fun _ _ => hs.symm, fun b hr hw hnm hv => ⟨rfl, ?_⟩⟩
  have hk := kind_of hh hr hv
  rw [if_neg (by rw [digit_iff]; omega), if_neg (by omega), if_neg (by omega), if_pos hc] at hk
  obtain ⟨zs', hb, hval, _⟩ := canon_ints hr hk
  have h64' : ∀ z ∈ zs', i64 z := by have := hw.ints; rw [hb] at this; exact this
  have h1 := numsR_ints h64'
  rw [← hval, hv, hz] at h1
  injection h1 with h1
  rw [hb, hnm, h1]
theorem rd_ints_no (hh : s.data.toList = c :: s.data.toList.tail) (hc : c.toNat = 91) (hz : numsR s.data.toList = none) : RdOK nm s ⟨nm, 4, 0, ⟨#[]⟩, [], []⟩ false := by
  refine ⟨rfl, fun h => (by cases h), fun h => (by cases h), fun h => (by cases h), fun b hr hw hnm hv => ?_⟩
  have hk := kind_of hh hr hv
  rw [if_neg (by rw [digit_iff]; omega), if_neg (by omega), if_neg (by omega), if_pos hc] at hk
  obtain ⟨zs', hb, hval, _⟩ := canon_ints hr hk
  have h64' : ∀ z ∈ zs', i64 z := by have := hw.ints; rw [hb] at this; exact this
  have h1 := numsR_ints h64'
  rw [← hval, hv, hz] at h1
  cases h1
theorem map_inj2 {l m : List ByteArray} (h : l.map (·.data.toList) = m.map (·.data.toList)) : l = m := by
  induction l generalizing m with
  | nil => cases m with
    | nil => rfl
    | cons y m => cases h
  | cons x l ih => cases m with
    | nil => cases h
    | cons y m =>
      rw [List.map_cons, List.map_cons] at h
      injection h with h1 h2
      rw [bytes_inj h1, ih h2]
theorem splitR_sound {l : List UInt8} {ps : List (List UInt8)} (h : splitR l = some ps) : l = joinR ps := by
  unfold splitR at h
  by_cases hc : 2 ≤ l.length ∧ l.head? = some 40 ∧ l.getLast? = some 41
  · rw [if_pos hc] at h
    obtain ⟨h2, hh, hl⟩ := hc
    have hform : l = 40 :: (l.tail.dropLast ++ [41]) := by
      cases l with
      | nil => cases hh
      | cons c t =>
        rw [List.head?_cons] at hh
        injection hh with hh
        have ht : t ≠ [] := by rintro rfl; simp at h2
        rw [List.tail_cons, hh]
        congr 1
        have : t.getLast? = some 41 := by rwa [last_cons ht] at hl
        rw [List.getLast?_eq_some_getLast ht] at this
        injection this with this
        rw [← this, List.dropLast_concat_getLast]
    by_cases he : l.tail.dropLast = []
    · rw [if_pos he] at h
      injection h with h
      subst h
      rw [he] at hform
      exact hform
    · rw [if_neg he] at h
      obtain ⟨_, hj, _⟩ := split_join _ _ _ h
      rw [hj] at hform
      exact hform
  · rw [if_neg hc] at h; cases h
theorem rd_types_yes (hh : s.data.toList = c :: s.data.toList.tail) (hc : c.toNat = 40) {ps : List ByteArray} (hz : splitR s.data.toList = some (ps.map (·.data.toList))) (hl : ps.length ≤ 9223372036854775807) : RdOK nm s ⟨nm, 5, 0, ⟨#[]⟩, [], ps⟩ (decide (ps.length ≤ 100)) := by
  have hs := splitR_sound hz
  refine ⟨rfl, fun _ => ⟨⟨(by decide : (-9223372036854775808 : Int) ≤ 5), (by decide : (5 : Int) ≤ 9223372036854775807)⟩, ⟨(by decide : (-9223372036854775808 : Int) ≤ 0), (by decide : (0 : Int) ≤ 9223372036854775807)⟩, fun z hz => (by cases hz), Nat.zero_le _, hl⟩, fun _ => ⟨Nat.zero_le _, types_short hz⟩, fun _ _ => hs.symm, fun b hr hw hnm hv => ?_⟩
  have hk := kind_of hh hr hv
  rw [if_neg (by rw [digit_iff]; omega), if_neg (by omega), if_neg (by omega), if_neg (by omega), if_pos hc] at hk
  obtain ⟨ss, hb, hval, h100, hty⟩ := canon_types hr hk
  have h1 := splitR_joinR (all_tyR hty)
  rw [← hval, hv, hz] at h1
  injection h1 with h1
  have := map_inj2 h1
  subst this
  exact ⟨decide_eq_true h100, by rw [hb, hnm]⟩
theorem rd_types_no (hh : s.data.toList = c :: s.data.toList.tail) (hc : c.toNat = 40) (hz : splitR s.data.toList = none) : RdOK nm s ⟨nm, 5, 0, ⟨#[]⟩, [], []⟩ false := by
  refine ⟨rfl, fun h => (by cases h), fun h => (by cases h), fun h => (by cases h), fun b hr hw hnm hv => ?_⟩
  have hk := kind_of hh hr hv
  rw [if_neg (by rw [digit_iff]; omega), if_neg (by omega), if_neg (by omega), if_neg (by omega), if_pos hc] at hk
  obtain ⟨ss, hb, hval, h100, hty⟩ := canon_types hr hk
  have h1 := splitR_joinR (all_tyR hty)
  rw [← hval, hv, hz] at h1
  cases h1
theorem rd_int_yes (hh : s.data.toList = c :: s.data.toList.tail) (hc : c.toNat = 45 ∨ bDigit c = true) {z : Int} (hz : intR s.data.toList = some z) : RdOK nm s ⟨nm, 0, z, ⟨#[]⟩, [], []⟩ true := by
  obtain ⟨h64, hs⟩ := intR_sound hz
  refine ⟨rfl, fun _ => ⟨⟨(by decide : (-9223372036854775808 : Int) ≤ 0), (by decide : (0 : Int) ≤ 9223372036854775807)⟩, h64, fun z hz => (by cases hz), Nat.zero_le _, Nat.zero_le _⟩, fun _ => ⟨Nat.zero_le _, fun x hx => (by cases hx)⟩, fun _ _ => hs, fun b hr hw hnm hv => ⟨rfl, ?_⟩⟩
  have hk := kind_of hh hr hv
  rw [if_pos hc] at hk
  obtain ⟨y, hb, hval⟩ := canon_int hr hk
  have : z = y := itoa_inj (by rw [hs, ← hv, hval])
  rw [hb, hnm, this]
theorem rd_int_no (hh : s.data.toList = c :: s.data.toList.tail) (hc : c.toNat = 45 ∨ bDigit c = true) (hz : intR s.data.toList = none) (z : Int) : RdOK nm s ⟨nm, 0, z, ⟨#[]⟩, [], []⟩ false := by
  refine ⟨rfl, fun h => (by cases h), fun h => (by cases h), fun h => (by cases h), fun b hr hw hnm hv => ?_⟩
  have hk := kind_of hh hr hv
  rw [if_pos hc] at hk
  obtain ⟨y, hb, hval⟩ := canon_int hr hk
  have h64 : i64 y := by have := hw.num; rw [hb] at this; exact this
  have h1 := intR_some h64 rfl
  rw [← hval, hv, hz] at h1
  cases h1
end
end Go.Proofs.YtiofnjnaleglgaaGreatDoor
