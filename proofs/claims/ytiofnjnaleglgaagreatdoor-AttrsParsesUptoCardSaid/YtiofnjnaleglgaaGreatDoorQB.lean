/-
  Texts of mine in one file: KAtRI, KAtRJ, KAtUQ.
-/
import Derived.Test.YtiofnjnaleglgaaGreatDoorQA
import Derived.Test.YtiofnjnaleglgaaGreatDoorG21
/-
  The reference's 'nibble' and 'integer' by contracts.
-/
namespace Go.Proofs.YtiofnjnaleglgaaGreatDoor
open Go.RowKit

theorem dec_inj {a b : Nat} (h : Lib.decDigits a = Lib.decDigits b) : a = b := by
  rw [← dec_val a, h, dec_val]
theorem dec_no45 {n : Nat} {t : List UInt8} (h : Lib.decDigits n = 45 :: t) : False := by
  have := dec_all n
  rw [h, List.all_cons, Bool.and_eq_true] at this
  have := (digit_iff 45).1 this.1
  exact absurd this (by decide)
theorem itoa_neg {z : Int} (h : z < 0) : Lib.itoa z = 45 :: Lib.decDigits z.natAbs := if_pos h
theorem itoa_pos {z : Int} (h : ¬ z < 0) : Lib.itoa z = Lib.decDigits z.toNat := if_neg h
theorem itoa_inj {a b : Int} (h : Lib.itoa a = Lib.itoa b) : a = b := by
  by_cases ha : a < 0
  · by_cases hb : b < 0
    · rw [itoa_neg ha, itoa_neg hb] at h
      injection h with _ h
      have := dec_inj h
      omega
    · rw [itoa_neg ha, itoa_pos hb] at h
      exact (dec_no45 h.symm).elim
  · by_cases hb : b < 0
    · rw [itoa_pos ha, itoa_neg hb] at h
      exact (dec_no45 h).elim
    · rw [itoa_pos ha, itoa_pos hb] at h
      have := dec_inj h
      omega
open Classical in
/-- The number that a string is. -/
noncomputable def intR (l : List UInt8) : Option Int := if h : ∃ z, i64 z ∧ Lib.itoa z = l then some (Classical.choose h) else none
theorem intR_some {l : List UInt8} {z : Int} (hz : i64 z) (h : Lib.itoa z = l) : intR l = some z := by
  have hex : ∃ z, i64 z ∧ Lib.itoa z = l := ⟨z, hz, h⟩
  unfold intR
  rw [dif_pos hex]
  have h1 := Classical.choose_spec hex
  rw [itoa_inj (h1.2.trans h.symm)]
theorem intR_none {l : List UInt8} (h : ∀ z, i64 z → Lib.itoa z ≠ l) : intR l = none := by
  unfold intR
  rw [dif_neg]
  rintro ⟨z, h1, h2⟩
  exact h z h1 h2
theorem intR_sound {l : List UInt8} {z : Int} (h : intR l = some z) : i64 z ∧ Lib.itoa z = l := by
  unfold intR at h
  split at h
  · rename_i hex
    have h1 := Classical.choose_spec hex
    injection h with h
    rw [← h]
    exact h1
  · cases h
theorem i64_wrap (x : Int) : i64 (wrap64 x) := by unfold wrap64; constructor <;> omega

def IntPost (s : ByteArray) (w : World) (e : Ending) (w' : World) : Prop := w = w' ∧ ((∃ z, intR s.data.toList = some z ∧ e = .returned (.tuple #[.int .i64 z, .bool true])) ∨ (intR s.data.toList = none ∧ ∃ z, e = .returned (.tuple #[.int .i64 z, .bool false])))
theorem intPost_no {s : ByteArray} {w : World} {z : Int} (h : intR s.data.toList = none) : IntPost s w (.returned (.tuple #[.int .i64 z, .bool false])) w := ⟨rfl, .inr ⟨h, z, rfl⟩⟩
theorem intPost_yes {s : ByteArray} {w : World} {z : Int} (h : intR s.data.toList = some z) : IntPost s w (.returned (.tuple #[.int .i64 z, .bool true])) w := ⟨rfl, .inl ⟨z, h, rfl⟩⟩
/-- What of a number's string has been read: from the f-th byte up to the m-th. -/
def IntS (l : List UInt8) (f m : Nat) (z : Int) : Prop := ∀ y, i64 y → Lib.itoa y = l → z = -((dvalFrom 0 ((l.drop f).take (m - f)) : Nat) : Int)
/-- Where the digits of a number begin. -/
def Sgn (l : List UInt8) (f : Nat) : Prop := (f = 1 ∧ l.head? = some 45) ∨ (f = 0 ∧ l.head? ≠ some 45)
theorem digits_of {y : Int} {l : List UInt8} (h : Lib.itoa y = l) {f : Nat} (hf : Sgn l f) : l.drop f = Lib.decDigits y.natAbs ∧ (f = 1 ↔ y < 0) := by
  subst h
  by_cases hy : y < 0
  · rw [itoa_neg hy] at hf ⊢
    rcases hf with ⟨rfl, _⟩ | ⟨_, h⟩
    · exact ⟨rfl, by simpa using hy⟩
    · exact absurd rfl h
  · rw [itoa_pos hy] at hf ⊢
    rcases hf with ⟨_, h⟩ | ⟨rfl, _⟩
    · cases hd : Lib.decDigits y.toNat with
      | nil => rw [hd] at h; cases h
      | cons c t =>
        rw [hd, List.head?_cons] at h
        injection h with h
        rw [h] at hd
        exact (dec_no45 hd).elim
    · refine ⟨?_, by simpa using hy⟩
      rw [List.drop_zero, show y.natAbs = y.toNat by omega]
theorem digit_at {y : Int} {l : List UInt8} (h : Lib.itoa y = l) {f : Nat} (hf : Sgn l f) {m : Nat} (hm : f ≤ m) {c : UInt8} (hc : l[m]? = some c) : 48 ≤ c.toNat ∧ c.toNat ≤ 57 := by
  have h1 := (digits_of h hf).1
  have h2 : (l.drop f)[m - f]? = some c := by rw [List.getElem?_drop, show f + (m - f) = m by omega]; exact hc
  rw [h1] at h2
  have h3 := List.all_eq_true.1 (dec_all y.natAbs) c (List.mem_of_getElem? h2)
  exact (digit_iff c).1 h3
theorem take_dval {l : List UInt8} {f m : Nat} (hm : f ≤ m) {c : UInt8} (hc : l[m]? = some c) : dvalFrom 0 ((l.drop f).take (m + 1 - f)) = 10 * dvalFrom 0 ((l.drop f).take (m - f)) + (c.toNat - 48) := by
  have h2 : (l.drop f)[m - f]? = some c := by rw [List.getElem?_drop, show f + (m - f) = m by omega]; exact hc
  rw [show m + 1 - f = (m - f) + 1 by omega, List.take_add_one, h2, ← dval_snoc]
  rfl
theorem dval_pre (l : List UInt8) (k : Nat) : dvalFrom 0 (l.take k) ≤ dvalFrom 0 l := by
  have h : dvalFrom 0 l = dvalFrom (dvalFrom 0 (l.take k)) (l.drop k) := by
    conv => lhs; rw [← List.take_append_drop k l]
    unfold dvalFrom
    rw [List.foldl_append]
  rw [h]
  exact dval_le _ _
theorem IntS.next {l : List UInt8} {f m : Nat} {z : Int} (h : IntS l f m z) (hf : Sgn l f) (hm : f ≤ m) {c : UInt8} (hc : l[m]? = some c) (h48 : 48 ≤ c.toNat) {z' : Int} (hz' : z' = wrap64 (wrap64 (10 * z) - ((c.toNat : Int) - 48))) : IntS l f (m + 1) z' := by
  intro y hy he
  have h1 := h y hy he
  have h2 := take_dval hm hc
  have h3 := (digits_of he hf).1
  have h4 := dval_pre (l.drop f) (m + 1 - f)
  rw [h3, dec_val, ← h3] at h4
  rw [h2] at h4 ⊢
  have h5 := hy.1
  have h6 := hy.2
  rw [hz', h1]
  generalize dvalFrom 0 ((l.drop f).take (m - f)) = v at h4 ⊢
  unfold wrap64
  omega
theorem IntS.done {l : List UInt8} {f : Nat} {z : Int} (h : IntS l f l.length z) (hf : Sgn l f) {y : Int} (hy : i64 y) (he : Lib.itoa y = l) : z = -(y.natAbs : Int) := by
  have h1 := h y hy he
  have h3 := (digits_of he hf).1
  rw [h1, List.take_of_length_le (by rw [List.length_drop]; exact Nat.le_refl _), h3, dec_val]
theorem bytes_beq {x y : List UInt8} {s : ByteArray} (hs : s.data.toList = y) (h : x = y) : (x == s.toList) = true := by
  rw [ByteArray.toList_eq, hs, h]
  exact beq_self_eq_true _
theorem bytes_bne {x y : List UInt8} {s : ByteArray} (hs : s.data.toList = y) (h : x ≠ y) : (x == s.toList) = false := by
  rw [ByteArray.toList_eq, hs]
  exact beq_eq_false_iff_ne.2 h
end Go.Proofs.YtiofnjnaleglgaaGreatDoor

/-
  The walk of the reference's 'integer'.
-/
namespace Go.Proofs.YtiofnjnaleglgaaGreatDoor
open Go.RowKit

theorem itoa_len20' {z : Int} (h : i64 z) : 0 < (Lib.itoa z).length ∧ (Lib.itoa z).length ≤ 20 := by
  have h1 := h.1
  have h2 := h.2
  by_cases hz : z < 0
  · rw [itoa_neg hz, List.length_cons, Lib.decDigits_length]
    have := nDig_le 18 z.natAbs (by omega)
    omega
  · rw [itoa_pos hz, Lib.decDigits_length]
    have := nDig_le 18 z.toNat (by omega)
    have := Lib.nDigits_pos z.toNat
    omega

set_option maxHeartbeats 4000000 in
set_option maxRecDepth 100000 in
theorem Rinteger_any (s : ByteArray) (w : World) : Calls Tryz.prog 63 #[.string s] w (IntPost s w) := by
  by_cases h0 : s.size = 0
  · have hn := Lib.hid (intR_none (l := s.data.toList) fun z hz e => by
      have := (itoa_len20' hz).1
      rw [e, ← size_eq] at this
      omega)
    have hem : s.toList.isEmpty = true := by
      rw [ByteArray.toList_eq]
      rw [size_eq] at h0
      rw [List.eq_nil_of_length_eq_zero h0]
      rfl
    clear h0
    go_enter Tryz.func63, Tryz.ntmps63
    go_wp2_with fail
    go_ret2
    exact intPost_no hn.out
  have hem : s.toList.isEmpty = false := by
    rw [ByteArray.toList_eq]
    cases hl : s.data.toList with
    | nil => rw [size_eq, hl] at h0; exact absurd rfl h0
    | cons c t => rfl
  by_cases h20 : 20 < s.size
  · have hn := Lib.hid (intR_none (l := s.data.toList) fun z hz e => by
      have := (itoa_len20' hz).2
      rw [e, ← size_eq] at this
      omega)
    have hsi : (20 : Int) < (s.size : Int) := by omega
    clear h0 h20
    go_enter Tryz.func63, Tryz.ntmps63
    go_wp2_with fail
    go_ret2
    exact intPost_no hn.out
  have hpos : 0 < s.size := by omega
  have hsi : ¬ (20 : Int) < (s.size : Int) := by omega
  have hpi : (0 : Int) < (s.size : Int) := by omega
  have hix0 : ∀ w, (Instr.index 9 (.string s) (.int .i64 0)).run Tryz.prog w = .ok (.int .u8 ((s[0]'hpos).toNat : Int)) w := fun w => by
    rw [run_index_string w _ _ _ _ Tryz.underlying9]
    simp [hpos]
  have hhd := head_at s hpos
  have hc256 := (s[0]'hpos).toNat_lt
  generalize s[0]'hpos = c0 at hix0 hhd hc256
  have HHD := Lib.hid hhd
  have H20 := Lib.hid h20
  clear hhd h0 h20
  by_cases h45 : c0.toNat = 45
  · have k45 : (c0.toNat : Int) = 45 := by omega
    have HF := Lib.hid (show Sgn s.data.toList 1 from .inl ⟨rfl, by rw [HHD.out, UInt8.toNat_inj.1 (show c0.toNat = (45 : UInt8).toNat from h45)]⟩)
    clear h45
    go_enter Tryz.func63, Tryz.ntmps63
    go_wp2_with fail
    clear hix0 k45 hc256
    go_loopw [4, 6] (fun n i wr => ∃ (z : Int) (m : Nat), 1 ≤ m ∧ m ≤ s.size ∧ i = .int .i64 m ∧ n = .int .i64 z ∧ Hid (IntS s.data.toList 1 m z ∧ i64 z) ∧ wr = w) (fun _ i _ => s.size - (intOf i).toNat)
    case atStart => exact ⟨0, 1, Nat.le_refl _, by omega, rfl, rfl, ⟨fun y _ _ => by rw [Nat.sub_self, List.take_zero]; rfl, by decide, by decide⟩, rfl⟩
    case round =>
      obtain ⟨z, m, hfm, hms, rfl, rfl, HS, rfl⟩ := hrel
      by_cases hlt : m < s.size
      · have hmi : (m : Int) < (s.size : Int) := by omega
        have hge : s.data.toList[m]? = some (s[m]'hlt) := by rw [List.getElem?_eq_getElem (by rw [← size_eq]; exact hlt)]; rfl
        have hix : ∀ w, (Instr.index 9 (.string s) (.int .i64 m)).run Tryz.prog w = .ok (.int .u8 ((s[m]'hlt).toNat : Int)) w := fun w => by
          rw [run_index_string w _ _ _ _ Tryz.underlying9]
          simp [hmi]
        have hc := (s[m]'hlt).toNat_lt
        generalize s[m]'hlt = c at hix hge hc
        have HG := Lib.hid hge
        have HM := Lib.hid (And.intro hfm hlt)
        clear hge hlt
        by_cases hlo : c.toNat < 48
        · have klo : (c.toNat : Int) < 48 := by omega
          have hn := Lib.hid (intR_none (l := s.data.toList) fun z hz e => by have := digit_at e HF.out HM.out.1 HG.out; omega)
          clear hlo
          go_wp2_with fail
          go_ret2
          exact intPost_no hn.out
        by_cases hhi : 57 < c.toNat
        · have klo : ¬ (c.toNat : Int) < 48 := by omega
          have khi : 57 < (c.toNat : Int) := by omega
          have hn := Lib.hid (intR_none (l := s.data.toList) fun z hz e => by have := digit_at e HF.out HM.out.1 HG.out; omega)
          clear hlo hhi
          go_wp2_with fail
          go_ret2
          exact intPost_no hn.out
        have klo : ¬ (c.toNat : Int) < 48 := by omega
        have khi : ¬ 57 < (c.toNat : Int) := by omega
        have kge : 48 ≤ (c.toNat : Int) := by omega
        have H48 := Lib.hid (show 48 ≤ c.toNat by omega)
        clear hlo hhi
        go_wp2_with fail
        go_roundw
        case rel => exact ⟨_, m + 1, by have := HM.out; omega, by have := HM.out; omega, by go_num, rfl, ⟨HS.out.1.next HF.out HM.out.1 HG.out H48.out rfl, i64_wrap _⟩, trivial⟩
        case measure => have := HM.out; simp only [intOf]; omega
      · obtain rfl : m = s.size := by omega
        have HS2 : Hid (IntS s.data.toList 1 s.data.toList.length z) := by rw [← size_eq]; exact HS.out.1
        have hzi := HS.out.2
        clear HS hlt
        have HZ := Lib.hid (show ∀ y, i64 y → Lib.itoa y = s.data.toList → y = z from fun y hy he => by
          have h1 := HS2.out.done HF.out hy he
          have h2 := (digits_of he HF.out).2.1 rfl
          omega)
        by_cases hq : Lib.itoa (z) = s.data.toList
        · have HY := Lib.hid (intR_some hzi hq)
          have hbe := bytes_beq (s := s) rfl hq
          clear hq
          go_wp2_with fail
          refine (RDigits_any (z) hzi _).mono ?_
          rintro e w1 ⟨rfl, rfl⟩
          go_wp2_with fail
          go_ret2
          exact intPost_yes HY.out
        · have HY := Lib.hid (intR_none (l := s.data.toList) fun y hy he => hq (by rw [← HZ.out y hy he]; exact he))
          have hbe := bytes_bne (s := s) rfl hq
          clear hq
          go_wp2_with fail
          refine (RDigits_any (z) hzi _).mono ?_
          rintro e w1 ⟨rfl, rfl⟩
          go_wp2_with fail
          go_ret2
          exact intPost_no HY.out
  · have k45 : ¬ (c0.toNat : Int) = 45 := by omega
    have HF := Lib.hid (show Sgn s.data.toList 0 from .inr ⟨rfl, fun e => by rw [HHD.out] at e; injection e with e; rw [e] at h45; exact h45 rfl⟩)
    clear h45
    go_enter Tryz.func63, Tryz.ntmps63
    go_wp2_with fail
    clear hix0 k45 hc256
    go_loopw [4, 6] (fun n i wr => ∃ (z : Int) (m : Nat), 0 ≤ m ∧ m ≤ s.size ∧ i = .int .i64 m ∧ n = .int .i64 z ∧ Hid (IntS s.data.toList 0 m z ∧ i64 z) ∧ wr = w) (fun _ i _ => s.size - (intOf i).toNat)
    case atStart => exact ⟨0, 0, Nat.le_refl _, by omega, rfl, rfl, ⟨fun y _ _ => by rw [Nat.sub_self, List.take_zero]; rfl, by decide, by decide⟩, rfl⟩
    case round =>
      obtain ⟨z, m, hfm, hms, rfl, rfl, HS, rfl⟩ := hrel
      by_cases hlt : m < s.size
      · have hmi : (m : Int) < (s.size : Int) := by omega
        have hge : s.data.toList[m]? = some (s[m]'hlt) := by rw [List.getElem?_eq_getElem (by rw [← size_eq]; exact hlt)]; rfl
        have hix : ∀ w, (Instr.index 9 (.string s) (.int .i64 m)).run Tryz.prog w = .ok (.int .u8 ((s[m]'hlt).toNat : Int)) w := fun w => by
          rw [run_index_string w _ _ _ _ Tryz.underlying9]
          simp [hmi]
        have hc := (s[m]'hlt).toNat_lt
        generalize s[m]'hlt = c at hix hge hc
        have HG := Lib.hid hge
        have HM := Lib.hid (And.intro hfm hlt)
        clear hge hlt
        by_cases hlo : c.toNat < 48
        · have klo : (c.toNat : Int) < 48 := by omega
          have hn := Lib.hid (intR_none (l := s.data.toList) fun z hz e => by have := digit_at e HF.out HM.out.1 HG.out; omega)
          clear hlo
          go_wp2_with fail
          go_ret2
          exact intPost_no hn.out
        by_cases hhi : 57 < c.toNat
        · have klo : ¬ (c.toNat : Int) < 48 := by omega
          have khi : 57 < (c.toNat : Int) := by omega
          have hn := Lib.hid (intR_none (l := s.data.toList) fun z hz e => by have := digit_at e HF.out HM.out.1 HG.out; omega)
          clear hlo hhi
          go_wp2_with fail
          go_ret2
          exact intPost_no hn.out
        have klo : ¬ (c.toNat : Int) < 48 := by omega
        have khi : ¬ 57 < (c.toNat : Int) := by omega
        have kge : 48 ≤ (c.toNat : Int) := by omega
        have H48 := Lib.hid (show 48 ≤ c.toNat by omega)
        clear hlo hhi
        go_wp2_with fail
        go_roundw
        case rel => exact ⟨_, m + 1, by have := HM.out; omega, by have := HM.out; omega, by go_num, rfl, ⟨HS.out.1.next HF.out HM.out.1 HG.out H48.out rfl, i64_wrap _⟩, trivial⟩
        case measure => have := HM.out; simp only [intOf]; omega
      · obtain rfl : m = s.size := by omega
        have HS2 : Hid (IntS s.data.toList 0 s.data.toList.length z) := by rw [← size_eq]; exact HS.out.1
        have hzi := HS.out.2
        clear HS hlt
        have HZ := Lib.hid (show ∀ y, i64 y → Lib.itoa y = s.data.toList → y = wrap64 (-z) from fun y hy he => by
          have h1 := HS2.out.done HF.out hy he
          have h2 : ¬ y < 0 := fun h => absurd ((digits_of he HF.out).2.2 h) (by decide)
          have h3 := hy.2
          unfold wrap64
          omega)
        by_cases hq : Lib.itoa (wrap64 (-z)) = s.data.toList
        · have HY := Lib.hid (intR_some (i64_wrap _) hq)
          have hbe := bytes_beq (s := s) rfl hq
          clear hq
          go_wp2_with fail
          refine (RDigits_any (wrap64 (-z)) (i64_wrap _) _).mono ?_
          rintro e w1 ⟨rfl, rfl⟩
          go_wp2_with fail
          go_ret2
          exact intPost_yes HY.out
        · have HY := Lib.hid (intR_none (l := s.data.toList) fun y hy he => hq (by rw [← HZ.out y hy he]; exact he))
          have hbe := bytes_bne (s := s) rfl hq
          clear hq
          go_wp2_with fail
          refine (RDigits_any (wrap64 (-z)) (i64_wrap _) _).mono ?_
          rintro e w1 ⟨rfl, rfl⟩
          go_wp2_with fail
          go_ret2
          exact intPost_no HY.out
end Go.Proofs.YtiofnjnaleglgaaGreatDoor

/-
  What the reference's 'Unquote' has read of a quoted text; 'nibble' by its contract.
-/
namespace Go.Proofs.YtiofnjnaleglgaaGreatDoor
open Go.RowKit

def nibU (c : UInt8) : Int := if 48 ≤ c.toNat ∧ c.toNat ≤ 57 then (c.toNat : Int) - 48 else if 97 ≤ c.toNat ∧ c.toNat ≤ 102 then (c.toNat : Int) - 87 else -1
theorem ret_i64 {x y : Int} (h : x = y) : Ending.returned (Value.int .i64 x) = Ending.returned (Value.int .i64 y) := by rw [h]
theorem nibU_lt (c : UInt8) : nibU c < 16 := by
  unfold nibU
  split
  · omega
  · split <;> omega
theorem nib_hex : ∀ n : Nat, n < 16 → nibU (hexD n) = n := by decide +kernel
set_option maxHeartbeats 400000 in
theorem Rnibble_any (c : UInt8) (w : World) : Calls Tryz.prog 84 #[.int .u8 (c.toNat : Int)] w fun e w' => e = .returned (.int .i64 (nibU c)) ∧ w = w' := by
  have hc := c.toNat_lt
  by_cases h1 : 48 ≤ c.toNat
  · have k1 : 48 ≤ (c.toNat : Int) := by omega
    by_cases h2 : c.toNat ≤ 57
    · have k2 : (c.toNat : Int) ≤ 57 := by omega
      have HV := Lib.hid (ret_i64 (show (c.toNat : Int) - 48 = nibU c by unfold nibU; rw [if_pos ⟨h1, h2⟩]))
      go_enter Tryz.func84, Tryz.ntmps84
      go_wp2_with fail
      go_ret
      exact ⟨HV.out, rfl⟩
    · have k2 : ¬ (c.toNat : Int) ≤ 57 := by omega
      by_cases h3 : 97 ≤ c.toNat
      · have k3 : 97 ≤ (c.toNat : Int) := by omega
        by_cases h4 : c.toNat ≤ 102
        · have k4 : (c.toNat : Int) ≤ 102 := by omega
          have HV := Lib.hid (ret_i64 (show (c.toNat : Int) - 97 + 10 = nibU c by unfold nibU; rw [if_neg (by omega), if_pos ⟨h3, h4⟩]; omega))
          go_enter Tryz.func84, Tryz.ntmps84
          go_wp2_with fail
          go_ret
          exact ⟨HV.out, rfl⟩
        · have k4 : ¬ (c.toNat : Int) ≤ 102 := by omega
          have HV := Lib.hid (ret_i64 (show (-1 : Int) = nibU c by unfold nibU; rw [if_neg (by omega), if_neg (by omega)]))
          go_enter Tryz.func84, Tryz.ntmps84
          go_wp2_with fail
          go_ret
          exact ⟨HV.out, rfl⟩
      · have k3 : ¬ 97 ≤ (c.toNat : Int) := by omega
        have HV := Lib.hid (ret_i64 (show (-1 : Int) = nibU c by unfold nibU; rw [if_neg (by omega), if_neg (by omega)]))
        go_enter Tryz.func84, Tryz.ntmps84
        go_wp2_with fail
        go_ret
        exact ⟨HV.out, rfl⟩
  · have k1 : ¬ 48 ≤ (c.toNat : Int) := by omega
    have k3 : ¬ 97 ≤ (c.toNat : Int) := by omega
    have HV := Lib.hid (ret_i64 (show (-1 : Int) = nibU c by unfold nibU; rw [if_neg (by omega), if_neg (by omega)]))
    go_enter Tryz.func84, Tryz.ntmps84
    go_wp2_with fail
    go_ret
    exact ⟨HV.out, rfl⟩

/-- The ways in which a byte stands in a quoted text. -/
theorem quote_ways (u : UInt8) : (quoteB u = [92, 34] ∧ u = 34) ∨ (quoteB u = [92, 92] ∧ u = 92) ∨ (quoteB u = [92, 110] ∧ u = 10) ∨ quoteB u = [92, 120, hexD (u.toNat / 16), hexD (u.toNat % 16)] ∨ (quoteB u = [u] ∧ u ≠ 34 ∧ u ≠ 92) := by
  by_cases h34 : u.toNat = 34
  · exact .inl ⟨quote34 h34, UInt8.toNat_inj.1 h34⟩
  by_cases h92 : u.toNat = 92
  · exact .inr (.inl ⟨quote92 h92, UInt8.toNat_inj.1 h92⟩)
  by_cases h10 : u.toNat = 10
  · exact .inr (.inr (.inl ⟨by unfold quoteB; rw [if_neg h34, if_neg h92, if_pos h10], UInt8.toNat_inj.1 h10⟩))
  by_cases hh : u.toNat < 32 ∨ 126 < u.toNat
  · exact .inr (.inr (.inr (.inl (by unfold quoteB; rw [if_neg h34, if_neg h92, if_neg h10, if_pos hh]))))
  · exact .inr (.inr (.inr (.inr ⟨by unfold quoteB; rw [if_neg h34, if_neg h92, if_neg h10, if_neg hh], fun e => h34 (by rw [e]; rfl), fun e => h92 (by rw [e]; rfl)⟩)))
/-- If the string begins with a quoted text, so much of it has been read. -/
def UnqC (l : List UInt8) (m : Nat) (es : List UInt8) : Prop := ∀ t rest, l = quoteL t ++ rest → ∃ j, j ≤ t.length ∧ es = t.take j ∧ m = 1 + ((t.take j).flatMap quoteB).length
theorem unq_drop {l t rest : List UInt8} (h : l = quoteL t ++ rest) (j : Nat) : l.drop (1 + ((t.take j).flatMap quoteB).length) = (t.drop j).flatMap quoteB ++ (34 :: rest) := by
  have h1 : l = (34 :: (t.take j).flatMap quoteB) ++ ((t.drop j).flatMap quoteB ++ (34 :: rest)) := by
    have : t.flatMap quoteB = (t.take j).flatMap quoteB ++ (t.drop j).flatMap quoteB := by rw [← List.flatMap_append, List.take_append_drop]
    rw [h, quoteL, this]
    simp
  conv => lhs; rw [h1]
  rw [show 1 + ((t.take j).flatMap quoteB).length = (34 :: (t.take j).flatMap quoteB).length by rw [List.length_cons]; omega, List.drop_left]
/-- The byte that stands next. -/
theorem UnqC.byte {l : List UInt8} {m : Nat} {es : List UInt8} (h : UnqC l m es) {c : UInt8} (hc : l[m]? = some c) (h34 : c ≠ 34) {t rest : List UInt8} (ht : l = quoteL t ++ rest) :
    ∃ j u, t[j]? = some u ∧ es = t.take j ∧ m = 1 + ((t.take j).flatMap quoteB).length ∧ ∀ k, k < (quoteB u).length → l[m + k]? = (quoteB u)[k]? := by
  obtain ⟨j, hj, he, hm⟩ := h t rest ht
  have hd := unq_drop ht j
  rw [← hm] at hd
  have h0 : (l.drop m)[0]? = some c := by rw [List.getElem?_drop]; exact hc
  by_cases hlt : j < t.length
  · refine ⟨j, t[j], List.getElem?_eq_getElem hlt, he, hm, fun k hk => ?_⟩
    rw [List.drop_eq_getElem_cons hlt, List.flatMap_cons, List.append_assoc] at hd
    rw [← List.getElem?_drop, hd, List.getElem?_append_left hk]
  · obtain rfl : j = t.length := by omega
    rw [hd, List.drop_length] at h0
    injection h0 with h0
    exact absurd h0.symm h34
theorem UnqC.next {l : List UInt8} {m k : Nat} {es : List UInt8} {x : UInt8} (h : ∀ t rest, l = quoteL t ++ rest → ∃ j, t[j]? = some x ∧ es = t.take j ∧ m = 1 + ((t.take j).flatMap quoteB).length ∧ (quoteB x).length = k) : UnqC l (m + k) (es ++ [x]) := by
  intro t rest ht
  obtain ⟨j, hj, he, hm, hk⟩ := h t rest ht
  have hlt : j < t.length := (List.getElem?_eq_some_iff.1 hj).1
  refine ⟨j + 1, hlt, ?_, ?_⟩
  · rw [he, List.take_add_one, hj]; rfl
  · rw [List.take_add_one, hj, List.flatMap_append, List.length_append, hm, ← hk]
    simp
    omega
section
variable {l : List UInt8} {m : Nat} {es : List UInt8} {c : UInt8}
/-- A byte that stands for itself. -/
theorem UnqC.plain (h : UnqC l m es) (hc : l[m]? = some c) (h34 : c ≠ 34) (h92 : c ≠ 92) : UnqC l (m + 1) (es ++ [c]) := by
  refine UnqC.next fun t rest ht => ?_
  obtain ⟨j, u, hj, he, hm, hk⟩ := h.byte hc h34 ht
  have h0 := hk 0 (by rcases quote_ways u with h | h | h | h | h <;> (first | rw [h.1] | rw [h]) <;> exact Nat.zero_lt_succ _)
  rw [Nat.add_zero, hc] at h0
  rcases quote_ways u with ⟨h, _⟩ | ⟨h, _⟩ | ⟨h, _⟩ | h | ⟨h, _⟩ <;> rw [h] at h0 <;> injection h0 with h0
  · exact absurd h0 h92
  · exact absurd h0 h92
  · exact absurd h0 h92
  · exact absurd h0 h92
  · subst h0
    exact ⟨j, hj, he, hm, by rw [h]; rfl⟩
/-- The string does not begin with a quoted text. -/
def UnqN (l : List UInt8) : Prop := ∀ t rest, l ≠ quoteL t ++ rest
theorem UnqC.esc (h : UnqC l m es) (hc : l[m]? = some 92) {t rest : List UInt8} (ht : l = quoteL t ++ rest) :
    ∃ j u, t[j]? = some u ∧ es = t.take j ∧ m = 1 + ((t.take j).flatMap quoteB).length ∧ ((quoteB u = [92, 34] ∧ u = 34 ∧ l[m + 1]? = some 34) ∨ (quoteB u = [92, 92] ∧ u = 92 ∧ l[m + 1]? = some 92) ∨ (quoteB u = [92, 110] ∧ u = 10 ∧ l[m + 1]? = some 110) ∨
      (quoteB u = [92, 120, hexD (u.toNat / 16), hexD (u.toNat % 16)] ∧ l[m + 1]? = some 120 ∧ l[m + 2]? = some (hexD (u.toNat / 16)) ∧ l[m + 3]? = some (hexD (u.toNat % 16)))) := by
  obtain ⟨j, u, hj, he, hm, hk⟩ := h.byte hc (by decide) ht
  refine ⟨j, u, hj, he, hm, ?_⟩
  rcases quote_ways u with ⟨h, hu⟩ | ⟨h, hu⟩ | ⟨h, hu⟩ | h | ⟨h, hu, hv⟩
  · exact .inl ⟨h, hu, by rw [hk 1 (by rw [h]; decide), h]; rfl⟩
  · exact .inr (.inl ⟨h, hu, by rw [hk 1 (by rw [h]; decide), h]; rfl⟩)
  · exact .inr (.inr (.inl ⟨h, hu, by rw [hk 1 (by rw [h]; decide), h]; rfl⟩))
  · exact .inr (.inr (.inr ⟨h, by rw [hk 1 (by rw [h]; exact (by decide : 1 < 4)), h]; rfl, by rw [hk 2 (by rw [h]; exact (by decide : 2 < 4)), h]; rfl, by rw [hk 3 (by rw [h]; exact (by decide : 3 < 4)), h]; rfl⟩))
  · have h0 := hk 0 (by rw [h]; exact (by decide : 0 < 1))
    rw [Nat.add_zero, hc, h] at h0
    injection h0 with h0
    exact absurd h0.symm hv
theorem UnqC.no_end (h : UnqC l m es) (hc : l[m]? = some 92) (hl : l[m + 1]? = none) : UnqN l := fun t rest ht => by
  obtain ⟨j, u, _, _, _, hw⟩ := h.esc hc ht
  rcases hw with ⟨_, _, h1⟩ | ⟨_, _, h1⟩ | ⟨_, _, h1⟩ | ⟨_, h1, _⟩ <;> rw [hl] at h1 <;> cases h1
theorem UnqC.out (h : UnqC l l.length es) : UnqN l := fun t rest ht => by
  obtain ⟨j, _, _, hm⟩ := h t rest ht
  have hd := congrArg List.length (unq_drop ht j)
  rw [← hm, List.drop_length, List.length_append, List.length_cons] at hd
  simp at hd
theorem UnqC.two (h : UnqC l m es) (hc : l[m]? = some 92) {n : UInt8} (hn : l[m + 1]? = some n) (h1 : n = 34 ∨ n = 92) : UnqC l (m + 2) (es ++ [n]) := by
  refine UnqC.next fun t rest ht => ?_
  obtain ⟨j, u, hj, he, hm, hw⟩ := h.esc hc ht
  rcases hw with ⟨h2, hu, h3⟩ | ⟨h2, hu, h3⟩ | ⟨h2, hu, h3⟩ | ⟨h2, h3, _⟩ <;> rw [hn] at h3 <;> injection h3 with h3
  · subst h3 hu; exact ⟨j, hj, he, hm, by rw [h2]; rfl⟩
  · subst h3 hu; exact ⟨j, hj, he, hm, by rw [h2]; rfl⟩
  · rw [h3] at h1; exact absurd h1 (by decide)
  · rw [h3] at h1; exact absurd h1 (by decide)
theorem UnqC.line (h : UnqC l m es) (hc : l[m]? = some 92) (hn : l[m + 1]? = some 110) : UnqC l (m + 2) (es ++ [10]) := by
  refine UnqC.next fun t rest ht => ?_
  obtain ⟨j, u, hj, he, hm, hw⟩ := h.esc hc ht
  rcases hw with ⟨h2, hu, h3⟩ | ⟨h2, hu, h3⟩ | ⟨h2, hu, h3⟩ | ⟨h2, h3, _⟩ <;> rw [hn] at h3
  · exact absurd h3 (by decide)
  · exact absurd h3 (by decide)
  · subst hu; exact ⟨j, hj, he, hm, by rw [h2]; rfl⟩
  · exact absurd h3 (by decide)
theorem UnqC.hex (h : UnqC l m es) (hc : l[m]? = some 92) (hn : l[m + 1]? = some 120) {a b x : UInt8} (ha : l[m + 2]? = some a) (hb : l[m + 3]? = some b) (hx : (x.toNat : Int) = 16 * nibU a + nibU b) : UnqC l (m + 4) (es ++ [x]) := by
  refine UnqC.next fun t rest ht => ?_
  obtain ⟨j, u, hj, he, hm, hw⟩ := h.esc hc ht
  rcases hw with ⟨h2, hu, h3⟩ | ⟨h2, hu, h3⟩ | ⟨h2, hu, h3⟩ | ⟨h2, h3, h4, h5⟩
  · rw [hn] at h3; exact absurd h3 (by decide)
  · rw [hn] at h3; exact absurd h3 (by decide)
  · rw [hn] at h3; exact absurd h3 (by decide)
  · rw [ha] at h4
    rw [hb] at h5
    injection h4 with h4
    injection h5 with h5
    have hu256 := u.toNat_lt
    rw [h4, h5, nib_hex _ (by omega), nib_hex _ (by omega)] at hx
    have : x = u := UInt8.toNat_inj.1 (by omega)
    subst this
    exact ⟨j, hj, he, hm, by rw [h2]; rfl⟩
/-- After a stroke neither a quote, a stroke, an n, nor an x with two digits. -/
theorem UnqC.no_esc (h : UnqC l m es) (hc : l[m]? = some 92) {n : UInt8} (hn : l[m + 1]? = some n) (h34 : n ≠ 34) (h92 : n ≠ 92) (h110 : n ≠ 110) (hx : n = 120 → ¬ ∃ a b, l[m + 2]? = some a ∧ l[m + 3]? = some b ∧ 0 ≤ nibU a ∧ 0 ≤ nibU b) : UnqN l := fun t rest ht => by
  obtain ⟨j, u, _, _, _, hw⟩ := h.esc hc ht
  rcases hw with ⟨_, _, h3⟩ | ⟨_, _, h3⟩ | ⟨_, _, h3⟩ | ⟨_, h3, h4, h5⟩ <;> rw [hn] at h3 <;> injection h3 with h3
  · exact h34 h3
  · exact h92 h3
  · exact h110 h3
  · have hu256 := u.toNat_lt
    exact hx h3 ⟨_, _, h4, h5, by rw [nib_hex _ (by omega)]; omega, by rw [nib_hex _ (by omega)]; omega⟩
theorem UnqC.close (h : UnqC l m es) (hc : l[m]? = some 34) {t rest : List UInt8} (ht : l = quoteL t ++ rest) : es = t ∧ m + 1 = (quoteL t).length := by
  obtain ⟨j, hj, he, hm⟩ := h t rest ht
  have hd := unq_drop ht j
  rw [← hm] at hd
  have h0 : (l.drop m)[0]? = some 34 := by rw [List.getElem?_drop]; exact hc
  by_cases hlt : j < t.length
  · rw [hd, List.drop_eq_getElem_cons hlt, List.flatMap_cons, List.append_assoc] at h0
    rcases quote_ways t[j] with ⟨h, _⟩ | ⟨h, _⟩ | ⟨h, _⟩ | h | ⟨h, hu, _⟩ <;> rw [h] at h0 <;> injection h0 with h0
    · exact absurd h0 (by decide)
    · exact absurd h0 (by decide)
    · exact absurd h0 (by decide)
    · exact absurd h0 (by decide)
    · exact absurd h0 hu
  · obtain rfl : j = t.length := by omega
    rw [List.take_length] at he hm
    refine ⟨he, ?_⟩
    rw [hm, quoteL, List.length_cons, List.length_append, List.length_singleton]
    omega
end
theorem UnqC.start {l : List UInt8} : UnqC l 1 [] := fun _ _ _ => ⟨0, Nat.zero_le _, rfl, rfl⟩
end Go.Proofs.YtiofnjnaleglgaaGreatDoor
