import Derived.Test.YtgimdkgjfenafaaGreatDoorCG07
import Derived.Test.YtgimdkgjfenafaaGreatDoorCG11
import Derived.Test.YtgimdkgjfenafaaGreatDoorCG03
import Derived.Maps.OwnSet
import Derived.Deep.RegionWith
import Derived.Deep.Cut
import Derived.Deep.DeepCutAuto
import Derived.BigQuiet
import Derived.StillTail
import Derived.BigGuardPart
import Derived.BigCall
namespace Go.Proofs.YtgimdkgjfenafaaGreatDoor
open Go.RowKit
set_option maxHeartbeats 400000 in
theorem aLetter_any (c : Int) (w : World) :
  Calls Tryz.prog 224 #[.int .i32 c] w fun e w' => e = .returned (.bool (chLetter c)) ∧ w = w' := by
 by_cases h1 : 97 ≤ c <;> by_cases h2 : c ≤ 122 <;>
 ·go_enter Tryz.func224, Tryz.ntmps224
  go_wp2
  go_ret
  exact ⟨by simp [chLetter, h1, h2], rfl⟩
set_option maxHeartbeats 400000 in
theorem aDigit_any (c : Int) (w : World) :
  Calls Tryz.prog 225 #[.int .i32 c] w fun e w' => e = .returned (.bool (chDigit c)) ∧ w = w' := by
 by_cases h1 : 48 ≤ c <;> by_cases h2 : c ≤ 57 <;>
 ·go_enter Tryz.func225, Tryz.ntmps225
  go_wp2
  go_ret
  exact ⟨by simp [chDigit, h1, h2], rfl⟩
def nameUpto (s : ByteArray) (k : Nat) : Prop := ∀ j (h : j < s.size), j < k → (if j = 0 then bLetter (s[j]'h) else bPart (s[j]'h)) = true
theorem name_full {s : ByteArray} (h0 : 0 < s.size) (h60 : s.size ≤ 60) (h : nameUpto s s.size) : isNameR s.data.toList = true := by
 rw [isNameR_iff]
 refine ⟨by rw [← size_eq]; exact h60, ?_, ?_⟩
 ·have := h 0 h0 h0
  rw [if_pos rfl] at this
  have e := head_at s h0
  cases hl : s.data.toList with
  | nil => rw [hl] at e; cases e
  | cons c t =>
   rw [hl] at e
   have e : c = s[0]'h0 := Option.some.inj e
   rw [headLetter, e]; exact this
 ·rw [List.all_eq_true]
  intro c hc
  obtain ⟨j, hj, rfl⟩ := List.mem_iff_getElem.1 hc
  have hj' : j < s.size := by rw [size_eq]; exact hj
  have := h j hj' hj'
  by_cases e : j = 0
  ·rw [if_pos e] at this; exact letter_part this
  ·rw [if_neg e] at this; exact this
theorem name_bad {s : ByteArray} {k : Nat} (hk : k < s.size) (h : (if k = 0 then bLetter (s[k]'hk) else bPart (s[k]'hk)) = false) : isNameR s.data.toList = false := by
 cases hn : isNameR s.data.toList with
 | false => rfl
 | true =>
  obtain ⟨_, h1, h2⟩ := (isNameR_iff _).1 hn
  by_cases e : k = 0
  ·subst e
   rw [if_pos rfl] at h
   have e := head_at s hk
   cases hl : s.data.toList with
   | nil => rw [hl] at e; cases e
   | cons c t =>
    rw [hl] at e h1
    have e : c = s[0]'hk := Option.some.inj e
    rw [headLetter, e] at h1
    exact absurd (h1.symm.trans h) (by decide)
  ·rw [if_neg e] at h
   have hm : s[k]'hk ∈ s.data.toList := List.mem_iff_getElem.2 ⟨k, by rw [← size_eq]; exact hk, rfl⟩
   have := List.all_eq_true.1 h2 _ hm
   exact absurd (this.symm.trans h) (by decide)
theorem name_long {s : ByteArray} (h : 60 < s.size) : isNameR s.data.toList = false := by
 cases hn : isNameR s.data.toList with
 | false => rfl
 | true =>
  have := ((isNameR_iff _).1 hn).1
  rw [← size_eq] at this
  omega
theorem nameUpto_next {s : ByteArray} {k : Nat} (h : nameUpto s k) (hk : k < s.size) (hp : (if k = 0 then bLetter (s[k]'hk) else bPart (s[k]'hk)) = true) : nameUpto s (k + 1) := fun j hj hlt =>
 (Nat.lt_succ_iff_lt_or_eq.1 hlt).elim (h j hj) (fun e => by subst e; exact hp)
theorem iter_below (w : World) (s : ByteArray) (n : Nat) : Below w.heap.size w (w.iter s n) := (Below.refl _ _).alloc (Nat.le_refl _) _
set_option maxHeartbeats 1000000 in
set_option maxRecDepth 100000 in
theorem aName_any (s : ByteArray) (w : World) :
  Calls Tryz.prog 194 #[.string s] w fun e w' => e = .returned (.bool (isNameR s.data.toList)) ∧ Below w.heap.size w w' := by
 by_cases h0 : s.size = 0
 ·obtain rfl : s = ByteArray.empty := by
   apply ByteArray.ext; apply Array.ext'
   rw [size_eq] at h0
   exact List.eq_nil_of_length_eq_zero h0
  go_enter Tryz.func194, Tryz.ntmps194
  go_wp2_with fail
  go_ret
  exact ⟨rfl, Below.refl _ _⟩
 have hne : s.toList.isEmpty = false := by
  cases hx : s.toList.isEmpty with
  | false => rfl
  | true =>
   have := empty_of hx
   rw [size_eq, this] at h0
   exact absurd rfl h0
 have hs1 : ¬ s = ByteArray.empty := fun e => by rw [e] at h0; exact h0 rfl
 have hs2 : ¬ s.toList = [] := fun e => by rw [e] at hne; cases hne
 by_cases h60 : 60 < s.size
 ·have hx : (60 : Int) < (s.size : Int) := by omega
  have hf := Lib.hid (name_long h60)
  go_enter Tryz.func194, Tryz.ntmps194
  go_wp2_with fail
  go_ret
  exact ⟨by rw [hf.out]; rfl, Below.refl _ _⟩
 have hx : ¬ (60 : Int) < (s.size : Int) := by omega
 go_enter Tryz.func194, Tryz.ntmps194
 go_wp2_with fail
 go_loopw [3, 4] (fun _ _ wr => ∃ k : Nat, wr = w.iter s k ∧ k ≤ s.size ∧ Hid (nameUpto s k)) (fun _ _ wr => s.size - wr.iterPos w.heap.size)
 case atStart => exact ⟨0, rfl, Nat.zero_le _, fun j _ h => absurd h (Nat.not_lt_zero _)⟩
 case round =>
  obtain ⟨k, rfl, hk, hall⟩ := hrel
  by_cases hp : k < s.size
  ·have hnx : ∀ ty, (Instr.next (.pointer (some ⟨w.heap.size, 0, none⟩)) true ty).run Tryz.prog (w.iter s k) = _ := fun ty => run_next_any w s k ty hp
   by_cases ha : (s[k]'hp).toNat < 128
   ·rw [decode_ascii s k hp ha] at hnx
    cases hL : chLetter ((s[k]'hp).toNat : Int)
    ·by_cases hk0 : k = 0
     ·subst hk0
      have hf := Lib.hid (name_bad hp (by rw [if_pos rfl]; exact hL))
      go_wp2_with (go_at_call 224; refine (aLetter_any _ _).mono ?_; rintro e w' ⟨rfl, rfl⟩)
      go_ret
      exact ⟨by rw [hf.out]; rfl, iter_below _ _ _⟩
     ·have hk1 : ((k : Int) == 0) = false := by rw [beq_eq_false_iff_ne]; omega
      cases hD : chDigit ((s[k]'hp).toNat : Int)
      ·by_cases h95 : ((s[k]'hp).toNat : Int) = 95
       ·have hn := Lib.hid (nameUpto_next hall.out hp (by rw [if_neg hk0]; show chPart _ = true; unfold chPart; rw [h95]; decide))
        go_wp2_with (first | (go_at_call 224; refine (aLetter_any _ _).mono ?_; rintro e w' ⟨rfl, rfl⟩) | (go_at_call 225; refine (aDigit_any _ _).mono ?_; rintro e w' ⟨rfl, rfl⟩))
        go_roundw
        case rel => exact ⟨k + 1, rfl, by omega, hn.out⟩
        case measure => simp; omega
       ·have hf := Lib.hid (name_bad hp (by rw [if_neg hk0]; show chPart _ = false; unfold chPart; rw [hL, hD, decide_eq_false h95]; rfl))
        go_wp2_with (first | (go_at_call 224; refine (aLetter_any _ _).mono ?_; rintro e w' ⟨rfl, rfl⟩) | (go_at_call 225; refine (aDigit_any _ _).mono ?_; rintro e w' ⟨rfl, rfl⟩))
        go_ret
        exact ⟨by rw [hf.out]; rfl, iter_below _ _ _⟩
      ·have hn := Lib.hid (nameUpto_next hall.out hp (by rw [if_neg hk0]; show chPart _ = true; unfold chPart; rw [hL, hD]; rfl))
       go_wp2_with (first | (go_at_call 224; refine (aLetter_any _ _).mono ?_; rintro e w' ⟨rfl, rfl⟩) | (go_at_call 225; refine (aDigit_any _ _).mono ?_; rintro e w' ⟨rfl, rfl⟩))
       go_roundw
       case rel => exact ⟨k + 1, rfl, by omega, hn.out⟩
       case measure => simp; omega
    ·have hn := Lib.hid (nameUpto_next hall.out hp (by
      by_cases hk0 : k = 0
      ·rw [if_pos hk0]; exact hL
      ·rw [if_neg hk0]; exact letter_part hL))
     go_wp2_with (go_at_call 224; refine (aLetter_any _ _).mono ?_; rintro e w' ⟨rfl, rfl⟩)
     go_roundw
     case rel => exact ⟨k + 1, rfl, by omega, hn.out⟩
     case measure => simp; omega
   ·have hbad : bPart (s[k]'hp) = false := chPart_high _ (by omega)
    have hbadL : bLetter (s[k]'hp) = false := chLetter_high _ (by omega)
    have hf := Lib.hid (name_bad hp (by
     by_cases hk0 : k = 0
     ·rw [if_pos hk0]; exact hbadL
     ·rw [if_neg hk0]; exact hbad))
    have hh := (decode_high s k hp (by omega)).1
    have hL : chLetter (((Utf8.decode s k).1 : Nat) : Int) = false := chLetter_high _ hh
    have hD : chDigit (((Utf8.decode s k).1 : Nat) : Int) = false := chDigit_high _ hh
    have h95 : ¬ (((Utf8.decode s k).1 : Nat) : Int) = 95 := by omega
    generalize Utf8.decode s k = cw at hnx hL hD h95
    clear hbad hbadL hh
    by_cases hk0 : k = 0
    ·subst hk0
     go_wp2_with (first | (go_at_call 224; refine (aLetter_any _ _).mono ?_; rintro e w' ⟨rfl, rfl⟩) | (go_at_call 225; refine (aDigit_any _ _).mono ?_; rintro e w' ⟨rfl, rfl⟩))
     go_ret
     exact ⟨by rw [hf.out]; rfl, iter_below _ _ _⟩
    ·have hk1 : ((k : Int) == 0) = false := by rw [beq_eq_false_iff_ne]; omega
     go_wp2_with (first | (go_at_call 224; refine (aLetter_any _ _).mono ?_; rintro e w' ⟨rfl, rfl⟩) | (go_at_call 225; refine (aDigit_any _ _).mono ?_; rintro e w' ⟨rfl, rfl⟩))
     go_ret
     exact ⟨by rw [hf.out]; rfl, iter_below _ _ _⟩
  ·have hnx : ∀ ty, (Instr.next (.pointer (some ⟨w.heap.size, 0, none⟩)) true ty).run Tryz.prog (w.iter s k) = _ := fun ty => run_next_end w s k ty hp
   obtain rfl : k = s.size := by omega
   have hf := Lib.hid (name_full (by omega) (by omega) hall.out)
   go_wp2_with fail
   go_ret
   exact ⟨by rw [hf.out]; rfl, iter_below _ _ _⟩
section
open Go.Maps
def manOf (i : Nat) : Value := match i with
 | 0 => .agg #[.func (.func 206) #[] #[], .func (.func 207) #[] #[], .func (.func 208) #[] #[]]
 | 1 => .agg #[.func (.func 209) #[] #[], .func (.func 210) #[] #[], .func (.func 211) #[] #[]]
 | 2 => .agg #[.func (.func 212) #[] #[], .func (.func 213) #[] #[], .func (.func 214) #[] #[]]
 | 3 => .agg #[.func (.func 215) #[] #[], .func (.func 216) #[] #[], .func (.func 217) #[] #[]]
 | 4 => .agg #[.func (.func 218) #[] #[], .func (.func 219) #[] #[], .func (.func 220) #[] #[]]
 | 5 => .agg #[.func (.func 221) #[] #[], .func (.func 222) #[] #[], .func (.func 223) #[] #[]]
 | _ => .agg #[.nilFunc, .nilFunc, .nilFunc]
def manNo (v : Value) : Int := match v with
 | .agg cs => match cs[0]? with
  | some (Value.func (Fn.func f) _ _) => (f : Int)
  | _ => -1
 | _ => -2
open Classical in
noncomputable def manR (v : Value) : Option (DataW Unit × List MemPlace) := if ∃ i, i ≤ 6 ∧ v = manOf i then some (.lit (.int .i64 (manNo v)), []) else none
theorem manR_of {i : Nat} (h : i ≤ 6) : manR (manOf i) = some (.lit (.int .i64 (manNo (manOf i))), []) := if_pos ⟨i, h, rfl⟩
theorem manNo_inj {i j : Nat} (hi : i ≤ 6) (hj : j ≤ 6) (h : manNo (manOf i) = manNo (manOf j)) : i = j := by
 revert h
 rcases (show i = 0 ∨ i = 1 ∨ i = 2 ∨ i = 3 ∨ i = 4 ∨ i = 5 ∨ i = 6 by omega) with rfl | rfl | rfl | rfl | rfl | rfl | rfl <;>
 rcases (show j = 0 ∨ j = 1 ∨ j = 2 ∨ j = 3 ∨ j = 4 ∨ j = 5 ∨ j = 6 by omega) with rfl | rfl | rfl | rfl | rfl | rfl | rfl <;> decide
theorem manR_inv {v : Value} {i : Nat} {ps : List MemPlace} (hi : i ≤ 6) (h : manR v = some (.lit (.int .i64 (manNo (manOf i))), ps)) : v = manOf i := by
 unfold manR at h
 split at h
 ·rename_i hx
  obtain ⟨j, hj, rfl⟩ := hx
  have : manNo (manOf j) = manNo (manOf i) := by injection h with h; injection h with h _; injection h with h; injection h
  rw [manNo_inj hj hi this]
 ·cases h
def manD (i : Nat) : DataW Unit := .lit (.int .i64 (manNo (manOf i)))
def manMap : DataW Unit := ((((((DataW.map []).put (.int .i64 0) (manD 0)).put (.int .i64 1) (manD 1)).put (.int .i64 2) (manD 2)).put (.int .i64 3) (manD 3)).put (.int .i64 4) (manD 4)).put (.int .i64 5) (manD 5)
def kindNo (k : Int) : Nat := if 0 ≤ k ∧ k ≤ 5 then k.toNat else 6
theorem kindNo_le (k : Int) : kindNo k ≤ 6 := by unfold kindNo; split <;> omega
theorem manMap_has (k : Int) : Maps.has manMap (.int .i64 k) = decide (0 ≤ k ∧ k ≤ 5) := by
 by_cases h : 0 ≤ k ∧ k ≤ 5
 ·rcases (show k = 0 ∨ k = 1 ∨ k = 2 ∨ k = 3 ∨ k = 4 ∨ k = 5 by omega) with rfl | rfl | rfl | rfl | rfl | rfl <;> decide
 ·have h' : ¬ k = 0 ∧ ¬ k = 1 ∧ ¬ k = 2 ∧ ¬ k = 3 ∧ ¬ k = 4 ∧ ¬ k = 5 := by omega
  obtain ⟨h0, h1, h2, h3, h4, h5⟩ := h'
  rw [decide_eq_false h]
  unfold manMap
  have ne : ∀ {a : Int}, ¬ k = a → (Lit.int .i64 k) ≠ Lit.int .i64 a := fun h e => h (by injection e)
  rw [has_put_other (ne h5), has_put_other (ne h4), has_put_other (ne h3), has_put_other (ne h2), has_put_other (ne h1), has_put_other (ne h0)]
  rfl
theorem manMap_at (k : Int) : manMap.atKey (.int .i64 k) (manD 6) = manD (kindNo k) := by
 by_cases h : 0 ≤ k ∧ k ≤ 5
 ·rcases (show k = 0 ∨ k = 1 ∨ k = 2 ∨ k = 3 ∨ k = 4 ∨ k = 5 by omega) with rfl | rfl | rfl | rfl | rfl | rfl <;> rfl
 ·have h' : ¬ k = 0 ∧ ¬ k = 1 ∧ ¬ k = 2 ∧ ¬ k = 3 ∧ ¬ k = 4 ∧ ¬ k = 5 := by omega
  obtain ⟨h0, h1, h2, h3, h4, h5⟩ := h'
  rw [kindNo, if_neg h]
  unfold manMap
  have ne : ∀ {a : Int}, ¬ k = a → (Lit.int .i64 k) ≠ Lit.int .i64 a := fun h e => h (by injection e)
  rw [atKey_put_other (ne h5), atKey_put_other (ne h4), atKey_put_other (ne h3), atKey_put_other (ne h2), atKey_put_other (ne h1), atKey_put_other (ne h0)]
  rfl
theorem mcells3 {w : World} {b : Nat} {t : TypeId} {v0 v1 v2 : Value} (h : w.heap[b]? = some (.cells #[v0, v1, v2] t (0, 0))) :
  w.cell? ⟨b, 0, none⟩ = some v0 ∧ w.cell? ⟨b, 1, none⟩ = some v1 ∧ w.cell? ⟨b, 2, none⟩ = some v2 ∧ ∀ j, w.frozen? ⟨b, j, none⟩ = false := by
 refine ⟨?_, ?_, ?_, fun j => ?_⟩ <;> simp [World.cell?, World.frozen?, h]
theorem mset3_block {w : World} {b : Nat} {t : TypeId} {v0 v1 v2 u0 u1 u2 : Value} (h : w.heap[b]? = some (.cells #[v0, v1, v2] t (0, 0))) :
  (((w.setCell ⟨b, 0, none⟩ u0).setCell ⟨b, 1, none⟩ u1).setCell ⟨b, 2, none⟩ u2).heap[b]? = some (.cells #[u0, u1, u2] t (0, 0)) := by
 have h0 := heap_setCell_same _ b 0 _ t u0 h
 have h1 := heap_setCell_same _ b 1 _ t u1 h0
 have h2 := heap_setCell_same _ b 2 _ t u2 h1
 rw [h2]
 rfl
theorem manVar {w : World} {b : Nat} {v0 v1 v2 : Value} (h : w.heap[b]? = some (.cells #[v0, v1, v2] 283 (0, 0))) :
  (loadVar 283 ⟨b, 0, none⟩).run Tryz.prog w = .ok (.agg #[v0, v1, v2]) w :=
 run_loadVar_row w b _ _ _ _ _ h Tryz.underlying283 rfl (by kernel_rfl)
theorem decide_and {p q : Prop} [Decidable p] [Decidable q] : decide (p ∧ q) = (decide p && decide q) := by by_cases p <;> by_cases q <;> simp_all
theorem zero_man (w : World) : (zeroValue 283).run Tryz.prog w = .ok (manOf 6) w := by kernel_rfl
set_option maxHeartbeats 1000000 in
set_option maxRecDepth 100000 in
theorem mannerOf_any (k : Int) (hk : -9223372036854775808 ≤ k ∧ k ≤ 9223372036854775807) (w : World) :
  Calls Tryz.prog 193 #[.int .i64 k] w fun e w' => e = .returned (.tuple #[manOf (kindNo k), .bool (decide (0 ≤ k ∧ k ≤ 5))]) ∧ Below w.heap.size w w' := by
 have hmm := @run_makeMap Tryz.prog
 have own0 : ((w.alloc (.cells #[.nilFunc, .nilFunc, .nilFunc] 283)).alloc (.map #[] 0)).ownsMap Tryz.prog 101 manR (w.heap.size + 1) 0 (.map []) := by
  have h := World.ownsMap_made (w.alloc (.cells #[.nilFunc, .nilFunc, .nilFunc] 283)) Tryz.prog 101 manR
  simpa using h
 obtain ⟨w1, r1, own1, g1⟩ := own0.update (t := 292) (e := 283) (key := .int .i64 0) (val := manOf 0) (int_keyed Tryz.underlying101) Tryz.underlying292 (by decide) (keyOf_int_mk Tryz.underlying101 (by decide)) (manR_of (by decide))
 have R1 : (Instr.mapUpdate 292 (.map (some (w.heap.size + 1))) (.int .i64 0) (.agg #[.func (.func 206) #[] #[], .func (.func 207) #[] #[], .func (.func 208) #[] #[]])).run Tryz.prog ((w.alloc (.cells #[.nilFunc, .nilFunc, .nilFunc] 283)).alloc (.map #[] 0)) = .ok () w1 := r1
 have G1 := Lib.hid g1
 clear r1 g1
 obtain ⟨w2, r2, own2, g2⟩ := own1.update (t := 292) (e := 283) (key := .int .i64 1) (val := manOf 1) (int_keyed Tryz.underlying101) Tryz.underlying292 (by decide) (keyOf_int_mk Tryz.underlying101 (by decide)) (manR_of (by decide))
 have R2 : (Instr.mapUpdate 292 (.map (some (w.heap.size + 1))) (.int .i64 1) (.agg #[.func (.func 209) #[] #[], .func (.func 210) #[] #[], .func (.func 211) #[] #[]])).run Tryz.prog w1 = .ok () w2 := r2
 have G2 := Lib.hid g2
 clear r2 g2
 obtain ⟨w3, r3, own3, g3⟩ := own2.update (t := 292) (e := 283) (key := .int .i64 2) (val := manOf 2) (int_keyed Tryz.underlying101) Tryz.underlying292 (by decide) (keyOf_int_mk Tryz.underlying101 (by decide)) (manR_of (by decide))
 have R3 : (Instr.mapUpdate 292 (.map (some (w.heap.size + 1))) (.int .i64 2) (.agg #[.func (.func 212) #[] #[], .func (.func 213) #[] #[], .func (.func 214) #[] #[]])).run Tryz.prog w2 = .ok () w3 := r3
 have G3 := Lib.hid g3
 clear r3 g3
 obtain ⟨w4, r4, own4, g4⟩ := own3.update (t := 292) (e := 283) (key := .int .i64 3) (val := manOf 3) (int_keyed Tryz.underlying101) Tryz.underlying292 (by decide) (keyOf_int_mk Tryz.underlying101 (by decide)) (manR_of (by decide))
 have R4 : (Instr.mapUpdate 292 (.map (some (w.heap.size + 1))) (.int .i64 3) (.agg #[.func (.func 215) #[] #[], .func (.func 216) #[] #[], .func (.func 217) #[] #[]])).run Tryz.prog w3 = .ok () w4 := r4
 have G4 := Lib.hid g4
 clear r4 g4
 obtain ⟨w5, r5, own5, g5⟩ := own4.update (t := 292) (e := 283) (key := .int .i64 4) (val := manOf 4) (int_keyed Tryz.underlying101) Tryz.underlying292 (by decide) (keyOf_int_mk Tryz.underlying101 (by decide)) (manR_of (by decide))
 have R5 : (Instr.mapUpdate 292 (.map (some (w.heap.size + 1))) (.int .i64 4) (.agg #[.func (.func 218) #[] #[], .func (.func 219) #[] #[], .func (.func 220) #[] #[]])).run Tryz.prog w4 = .ok () w5 := r5
 have G5 := Lib.hid g5
 clear r5 g5
 obtain ⟨w6, r6, own6, g6⟩ := own5.update (t := 292) (e := 283) (key := .int .i64 5) (val := manOf 5) (int_keyed Tryz.underlying101) Tryz.underlying292 (by decide) (keyOf_int_mk Tryz.underlying101 (by decide)) (manR_of (by decide))
 have R6 : (Instr.mapUpdate 292 (.map (some (w.heap.size + 1))) (.int .i64 5) (.agg #[.func (.func 221) #[] #[], .func (.func 222) #[] #[], .func (.func 223) #[] #[]])).run Tryz.prog w5 = .ok () w6 := r6
 have G6 := Lib.hid g6
 clear r6 g6
 obtain ⟨v, ps, L, hv⟩ := own6.look_ok (t := 292) (e := 283) (key := .int .i64 k) (int_keyed Tryz.underlying101) Tryz.underlying292 (zero_man _) (manR_of (i := 6) (by decide)) (keyOf_int_mk Tryz.underlying101 (WalkArith.wf_i64 hk))
 have L' : (Instr.lookup 292 (.map (some (w.heap.size + 1))) (.int .i64 k) true).run Tryz.prog w6 = .ok (.tuple #[v, .bool (decide (0 ≤ k ∧ k ≤ 5))]) w6 := by
  rw [← manMap_has]; exact L
 obtain rfl : v = manOf (kindNo k) := manR_inv (kindNo_le k) (by
  have e : manMap.atKey (.int .i64 k) (manD 6) = manD (kindNo k) := manMap_at k
  unfold manD at e
  rw [← e]; exact hv)
 have hs0 : w.heap.size + 2 = ((w.alloc (.cells #[.nilFunc, .nilFunc, .nilFunc] 283)).alloc (.map #[] 0)).heap.size := by simp
 have b0 : Below w.heap.size w ((w.alloc (.cells #[.nilFunc, .nilFunc, .nilFunc] 283)).alloc (.map #[] 0)) := ((Below.refl _ _).alloc (Nat.le_refl _) _).alloc (by simp) _
 have hr : ∀ j, some (w.heap.size + 1) = some j → w.heap.size ≤ j := fun j e => by cases e; omega
 have b1 := b0.grown G1.out b0.size hr
 have b2 := b1.grown G2.out b1.size hr
 have b3 := b2.grown G3.out b2.size hr
 have b4 := b3.grown G4.out b3.size hr
 have b5 := b4.grown G5.out b4.size hr
 have b6 := b5.grown G6.out b5.size hr
 have k0 : ((w.alloc (.cells #[.nilFunc, .nilFunc, .nilFunc] 283)).alloc (.map #[] 0)).heap[w.heap.size]? = some (.cells #[.nilFunc, .nilFunc, .nilFunc] 283 (0, 0)) :=
  (Below.heap_alloc _ _ _ (by simp)).trans (heap_alloc_new _ _)
 have hne : some w.heap.size ≠ some (w.heap.size + 1) := fun e => by injection e with e; omega
 have k1 := (G1.out.block _ (lt_of_block k0) hne).trans k0
 have k2 := (G2.out.block _ (lt_of_block k1) hne).trans k1
 have k3 := (G3.out.block _ (lt_of_block k2) hne).trans k2
 have k4 := (G4.out.block _ (lt_of_block k3) hne).trans k3
 have k5 := (G5.out.block _ (lt_of_block k4) hne).trans k4
 have k6 := (G6.out.block _ (lt_of_block k5) hne).trans k5
 have K6 := Lib.hid k6
 have B6 := Lib.hid b6
 have hlt := Lib.hid (lt_of_block k6)
 clear own0 own1 own2 own3 own4 own5 own6 L hv b0 b1 b2 b3 b4 b5 b6 k0 k1 k2 k3 k4 k5 k6 G1 G2 G3 G4 G5 G6 hr hs0
 have two : (∃ n m p, manOf (kindNo k) = .agg #[.func (.func n) #[] #[], .func (.func m) #[] #[], .func (.func p) #[] #[]]) ∨ manOf (kindNo k) = .agg #[.nilFunc, .nilFunc, .nilFunc] := by
  unfold manOf
  split <;> first | exact .inl ⟨_, _, _, rfl⟩ | exact .inr rfl
 obtain ⟨c0, c1, c2, hfz⟩ := mcells3 K6.out
 have hnk := hlt.out
 clear hlt
 rw [decide_and] at L' ⊢
 generalize (decide (0 ≤ k) && decide (k ≤ 5)) = ok at L' ⊢
 rcases two with ⟨n, m, p, hm⟩ | hm
 ·rw [hm] at L' ⊢
  clear hm
  go_enter Tryz.func193, Tryz.ntmps193
  go_wp2_with fail
  refine bodyPost_ret (v := .tuple #[.agg #[.func (.func n) #[] #[], .func (.func m) #[] #[], .func (.func p) #[] #[]], .bool ok]) (results_cell_tmp Tryz.results193 rfl rfl (manVar ((Below.heap_alloc _ _ _ (lt_of_block (mset3_block K6.out))).trans (mset3_block K6.out)))) rfl ?_
  exact ⟨rfl, (((B6.out.setCell (p := ⟨w.heap.size, 0, none⟩) (Nat.le_refl _) _).setCell (p := ⟨w.heap.size, 1, none⟩) (Nat.le_refl _) _).setCell (p := ⟨w.heap.size, 2, none⟩) (Nat.le_refl _) _).alloc (by rw [setCell_size, setCell_size, setCell_size]; exact B6.out.size) _⟩
 ·rw [hm] at L' ⊢
  clear hm
  go_enter Tryz.func193, Tryz.ntmps193
  go_wp2_with fail
  refine bodyPost_ret (v := .tuple #[.agg #[.nilFunc, .nilFunc, .nilFunc], .bool ok]) (results_cell_tmp Tryz.results193 rfl rfl (manVar ((Below.heap_alloc _ _ _ (lt_of_block (mset3_block K6.out))).trans (mset3_block K6.out)))) rfl ?_
  exact ⟨rfl, (((B6.out.setCell (p := ⟨w.heap.size, 0, none⟩) (Nat.le_refl _) _).setCell (p := ⟨w.heap.size, 1, none⟩) (Nat.le_refl _) _).setCell (p := ⟨w.heap.size, 2, none⟩) (Nat.le_refl _) _).alloc (by rw [setCell_size, setCell_size, setCell_size]; exact B6.out.size) _⟩
end
theorem cells6 {w : World} {b : Nat} {T : TypeId} {v0 v1 v2 v3 v4 v5 : Value} (h : w.heap[b]? = some (.cells #[v0, v1, v2, v3, v4, v5] T (0, 0))) :
  w.cell? ⟨b, 0, none⟩ = some v0 ∧ w.cell? ⟨b, 1, none⟩ = some v1 ∧ w.cell? ⟨b, 2, none⟩ = some v2 ∧ w.cell? ⟨b, 3, none⟩ = some v3 ∧ w.cell? ⟨b, 4, none⟩ = some v4 ∧ w.cell? ⟨b, 5, none⟩ = some v5 ∧
   ∀ j, w.frozen? ⟨b, j, none⟩ = false := by
 refine ⟨?_, ?_, ?_, ?_, ?_, ?_, fun j => ?_⟩ <;> simp [World.cell?, World.frozen?, h]
theorem manner0_any (w : World) : Calls Tryz.prog 193 #[.int .i64 0] w fun e w' => e = .returned (.tuple #[.agg #[.func (.func 206) #[] #[], .func (.func 207) #[] #[], .func (.func 208) #[] #[]], .bool true]) ∧ Below w.heap.size w w' :=
 (mannerOf_any 0 ⟨by decide, by decide⟩ w).mono fun e w' ⟨he, hb⟩ => ⟨he, hb⟩
set_option maxHeartbeats 400000 in
set_option maxRecDepth 100000 in
theorem rightInt0_any (nm : ByteArray) (w : World) : Calls Tryz.prog 206 #[.agg #[.string nm, .int .i64 0, .int .i64 0, .string ⟨#[]⟩, .slice none 0 0, .slice none 0 0]] w
  fun e w' => e = .returned (.bool true) ∧ Below w.heap.size w w' := by
 go_enter Tryz.func206, Tryz.ntmps206
 go_wp2_with fail
 go_ret
 exact ⟨rfl, new_below _ _⟩
theorem enters_rightInt (args : Array Value) (w : World) : (callFunc 206 args).run Tryz.prog w = .ok (.enter 206 args) w :=
 enters_of Tryz.func206 (by kernel_rfl) rfl args w
set_option maxHeartbeats 2000000 in
set_option maxRecDepth 100000 in
theorem isRight0_any (nm : ByteArray) (w : World) :
  Calls Tryz.prog 178 #[.agg #[.string nm, .int .i64 0, .int .i64 0, .string ⟨#[]⟩, .slice none 0 0, .slice none 0 0]] w fun e w' => e = .returned (.bool (isNameR nm.data.toList)) ∧ Below w.heap.size w w' := by
 have T0 := Lib.hid (heap_alloc_new w (.cells #[.string nm, .int .i64 0, .int .i64 0, .string ⟨#[]⟩, .slice none 0 0, .slice none 0 0] 264))
 go_enter Tryz.func178, Tryz.ntmps178
 go_wp2_with fail
 refine (manner0_any _).mono ?_
 rintro e w1 ⟨rfl, hb⟩
 have B1 := Lib.hid ((new_below w _).trans (hb.mono (new_below w _).size))
 have T1 := Lib.hid ((hb.block _ (lt_of_block T0.out)).trans T0.out)
 clear hb
 obtain ⟨c0, c1, c2, c3, c4, c5, cf⟩ := cells6 T1.out
 have hlt := lt_of_block T1.out
 have hen := enters_rightInt
 have M1 := Lib.hid (heap_alloc_new w1 (.cells #[.func (.func 206) #[] #[], .func (.func 207) #[] #[], .func (.func 208) #[] #[]] 283))
 go_wp2_with fail
 refine (aName_any nm _).mono ?_
 rintro e w2 ⟨rfl, hb⟩
 have B2 := Lib.hid (B1.out.trans ((new_below w1 (.cells #[.func (.func 206) #[] #[], .func (.func 207) #[] #[], .func (.func 208) #[] #[]] 283)).mono B1.out.size |>.trans (hb.mono (by have := B1.out.size; simp; omega))))
 have M2 := Lib.hid ((hb.block _ (lt_of_block M1.out)).trans M1.out)
 have T2 := Lib.hid ((hb.block _ (by have := lt_of_block T1.out; simp; omega)).trans ((Below.heap_alloc _ _ _ (lt_of_block T1.out)).trans T1.out))
 clear hb c0 c1 c2 c3 c4 c5 cf
 cases hnm : isNameR nm.data.toList
 ·have HR := Lib.hid hnm
  clear hnm
  go_wp2_with fail
  go_ret
  exact ⟨by first | rfl | (rw [HR.out]; rfl), B2.out⟩
 ·have HR := Lib.hid hnm
  clear hnm
  obtain ⟨c0, c1, c2, c3, c4, c5, cf⟩ := cells6 T2.out
  obtain ⟨m0, m1, m2, mf⟩ := mcells3 M2.out
  go_wp2_with fail
  refine (rightInt0_any nm _).mono ?_
  rintro e w3 ⟨rfl, hb⟩
  have B3 := Lib.hid (B2.out.trans (hb.mono B2.out.size))
  clear hb
  go_wp2_with fail
  go_ret
  exact ⟨by first | rfl | (rw [HR.out]; rfl), B3.out⟩
theorem still_of_quiet0 {P : Program} {ops : Array Oper} {w : World} {Q : Act → Prop} : ∀ (l : List Oper) (a : Act), wpQuiet P ops (fun w' => w' = w) Q l a → wpStill P ops w Q l a
 | [], a, h => h
 | o :: rest, a, h => by
  unfold wpQuiet at h
  unfold wpStill
  split
  ·rename_i hw
   rw [if_pos hw] at h
   obtain ⟨v, hv, hn⟩ := h
   have hq := hv w rfl
   have ih := still_of_quiet0 (P := P) (ops := ops) (w := w) (Q := Q) rest
   unfold Oper.quietAt Oper.quietUpon at hq
   unfold Oper.still Oper.stillUpon
   split at hq
   ·rename_i e
    rw [e]
    exact ⟨hq.1, by rw [hq.2]; exact ih _ hn⟩
   ·rename_i e
    rw [e]
    exact ⟨hq.1, by rw [← hq.2]; exact ih _ hn⟩
   ·rename_i e
    rw [e]
    exact ⟨hq.1, v, hq.2, ih _ hn⟩
   ·exact hq.elim
  ·rename_i hw
   rw [if_neg hw] at h
   exact still_of_quiet0 rest _ h
set_option maxHeartbeats 2000000 in
set_option maxRecDepth 100000 in
theorem isRightOne_any (nm : ByteArray) (b : Nat) (w : World) (hh : w.heap[b]? = some (.cells #[.string nm, .int .i64 0, .int .i64 0, .string ⟨#[]⟩, .slice none 0 0, .slice none 0 0] 133 (0, 0))) :
  Calls Tryz.prog 164 #[.slice (some ⟨b, 0, none⟩) 1 1] w fun e w' => e = .returned (.bool (isNameR nm.data.toList)) ∧ Below w.heap.size w w' := by
 have HH := Lib.hid hh
 clear hh
 go_enter Tryz.func164, Tryz.ntmps164
 go_wp2_with fail
 go_loopw [10, 3, 4] (fun i _ _ wr => ∃ q : Nat, q ≤ 1 ∧ i = .int .i64 q ∧ Hid ((q = 1 → isNameR nm.data.toList = true) ∧ Below w.heap.size w wr)) (fun i _ _ _ => 1 - (intOf i).toNat)
 case atStart => exact ⟨0, Nat.zero_le _, rfl, fun h => absurd h (by decide), Below.refl _ _⟩
 case round =>
  obtain ⟨q, hq, rfl, HL⟩ := hrel
  rcases (show q = 0 ∨ q = 1 by omega) with rfl | rfl
  ·have T0 := (HL.out.2.block _ (lt_of_block HH.out)).trans HH.out
   obtain ⟨c0, c1, c2, c3, c4, c5, cf⟩ := cells6 T0
   clear T0
   have T1 := Lib.hid (heap_alloc_new wr (.cells #[.string nm, .int .i64 0, .int .i64 0, .string ⟨#[]⟩, .slice none 0 0, .slice none 0 0] 133))
   have B1 := Lib.hid (HL.out.2.alloc HL.out.2.size (.cells #[.string nm, .int .i64 0, .int .i64 0, .string ⟨#[]⟩, .slice none 0 0, .slice none 0 0] 133))
   go_upto_region 6 with fail
   rw [show ((0 : Nat) : Int) = 0 from rfl]
   generalize wr.alloc (.cells #[.string nm, .int .i64 0, .int .i64 0, .string ⟨#[]⟩, .slice none 0 0, .slice none 0 0] 133) = W1 at T1 B1 ⊢
   generalize wr.heap.size = D at T1 ⊢
   clear c0 c1 c2 c3 c4 c5 cf
   obtain ⟨d0, d1, d2, d3, d4, d5, df⟩ := cells6 T1.out
   have BD := Lib.hid B1.out.drew
   refine wp_region_still_tail 15 (by kernel_rfl) (by kernel_rfl) ?_
   simp only [List.take_succ_cons, List.take_zero, List.drop_succ_cons, List.drop_zero]
   refine still_of_quiet0 _ _ ?_
   repeat (go_big_quiet_step (fail))
   refine wpQuiet_nil ?_
   change wpList _ _ _ _ _ W1.drew
   clear T1 B1 d0 d1 d2 d3 d4 d5 df
   go_wp2_with fail
   refine (isRight0_any nm W1.drew).mono ?_
   rintro e w2 ⟨rfl, hb⟩
   have B2 := Lib.hid (BD.out.trans (hb.mono BD.out.size))
   clear hb BD HL
   cases hr : isNameR nm.data.toList with
   | false =>
    have HR := Lib.hid hr
    clear hr
    go_wp2_with fail
    go_ret
    exact ⟨by first | rfl | (rw [HR.out]; rfl), B2.out⟩
   | true =>
    have HR := Lib.hid hr
    clear hr
    go_wp2_with fail
    go_roundw
    case rel => exact ⟨1, by omega, by go_num, fun _ => HR.out, B2.out⟩
    case measure => simp [intOf]
  ·have HR := Lib.hid (HL.out.1 rfl)
   have HB := Lib.hid HL.out.2
   clear HL
   go_wp2_with fail
   go_ret
   exact ⟨by first | rfl | (rw [HR.out]; rfl), HB.out⟩
def nameErr (nm : ByteArray) : Int := if isNameR nm.data.toList = true then 0 else 20
theorem nameErr_no {nm : ByteArray} (h : isNameR nm.data.toList = false) : nameErr nm = 20 := by unfold nameErr; rw [h]; rfl
theorem nameErr_yes {nm : ByteArray} (h : isNameR nm.data.toList = true) : nameErr nm = 0 := by unfold nameErr; rw [h]; rfl
set_option maxHeartbeats 400000 in
set_option maxRecDepth 100000 in
theorem CheckOne_any (nm : ByteArray) (b : Nat) (w : World) (hh : w.heap[b]? = some (.cells #[.string nm, .int .i64 0, .int .i64 0, .string ⟨#[]⟩, .slice none 0 0, .slice none 0 0] 133 (0, 0))) :
  Calls Tryz.prog 144 #[.slice (some ⟨b, 0, none⟩) 1 1] w fun e w' => e = .returned (.int .i64 (nameErr nm)) ∧ Below w.heap.size w w' := by
 have HH := Lib.hid hh
 clear hh
 go_enter Tryz.func144, Tryz.ntmps144
 go_wp2_with fail
 refine (isRightOne_any nm b w HH.out).mono ?_
 rintro e w1 ⟨rfl, hb⟩
 have B1 := Lib.hid hb
 clear hb HH
 cases hr : isNameR nm.data.toList
 ·have HR := Lib.hid (nameErr_no hr)
  clear hr
  go_wp2_with fail
  go_ret
  exact ⟨by rw [HR.out]; rfl, B1.out⟩
 ·have HR := Lib.hid (nameErr_yes hr)
  clear hr
  go_wp2_with fail
  go_ret
  exact ⟨by rw [HR.out]; rfl, B1.out⟩
set_option maxHeartbeats 400000 in
set_option maxRecDepth 100000 in
theorem isName_any (s : ByteArray) (w : World) :
  Calls Tryz.prog 112 #[.string s] w fun e w' => e = .returned (.bool (isNameR s.data.toList)) ∧ Below w.heap.size w w' := by
 have T1 := Lib.hid (heap_alloc_new w (.cells #[.string s, .int .i64 0, .int .i64 0, .string ⟨#[]⟩, .slice none 0 0, .slice none 0 0] 133))
 have B1 := Lib.hid (new_below w (.cells #[.string s, .int .i64 0, .int .i64 0, .string ⟨#[]⟩, .slice none 0 0, .slice none 0 0] 133))
 go_enter Tryz.func112, Tryz.ntmps112
 go_wp2_with fail
 generalize w.alloc (.cells #[.string s, .int .i64 0, .int .i64 0, .string ⟨#[]⟩, .slice none 0 0, .slice none 0 0] 133) = W1 at T1 B1 ⊢
 generalize w.heap.size = D at T1 ⊢
 refine (CheckOne_any s D W1 T1.out).mono ?_
 rintro e w2 ⟨rfl, hb⟩
 have B2 := Lib.hid (B1.out.trans (hb.mono B1.out.size))
 clear hb
 cases hr : isNameR s.data.toList
 ·have HR := Lib.hid hr
  rw [nameErr_no hr]
  clear hr
  go_wp2_with fail
  go_ret
  exact ⟨by rw [HR.out]; rfl, B2.out⟩
 ·have HR := Lib.hid hr
  rw [nameErr_yes hr]
  clear hr
  go_wp2_with fail
  go_ret
  exact ⟨by rw [HR.out]; rfl, B2.out⟩
end Go.Proofs.YtgimdkgjfenafaaGreatDoor
