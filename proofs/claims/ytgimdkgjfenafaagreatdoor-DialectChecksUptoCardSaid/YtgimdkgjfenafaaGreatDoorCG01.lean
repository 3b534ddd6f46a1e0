import Derived.Test.YtgimdkgjfenafaaGreatDoorCG00
import Derived.Deep.LoopGhost
import Derived.Maps.OwnSet
namespace Go.Proofs.YtgimdkgjfenafaaGreatDoor
open Go.RowKit
def bLetter (b : UInt8) : Bool := chLetter (b.toNat : Int)
def bDigit (b : UInt8) : Bool := chDigit (b.toNat : Int)
def bPart (b : UInt8) : Bool := chPart (b.toNat : Int)
def bIs (x : Int) (b : UInt8) : Bool := (b.toNat : Int) == x
def bAny (_ : UInt8) : Bool := true
def Took (p : UInt8 → Bool) (bl : Nat) (s : ByteArray) (w : World) (e : Ending) (w' : World) : Prop :=
 ∃ r q : ByteArray, e = .returned (.string r) ∧ r.data.toList = s.data.toList.takeWhile p ∧ q.data.toList = s.data.toList.dropWhile p ∧
  w'.heap[bl]? = some (.cells #[.string q] 9 (0, 0)) ∧ w.grownBy w' (some bl)
theorem extract_toList (s : ByteArray) (a b : Nat) : (s.extract a b).data.toList = (s.data.toList.take b).drop a := by
 simp [ByteArray.data_extract, Array.toList_extract, List.extract, List.drop_take]
theorem takeWhile_at (p : UInt8 → Bool) : ∀ (l : List UInt8) (k : Nat), k ≤ l.length → (∀ j (h : j < l.length), j < k → p l[j] = true) → (∀ h : k < l.length, p l[k] = false) →
  l.takeWhile p = l.take k ∧ l.dropWhile p = l.drop k
 | [], k, hk, _, _ => by simp
 | a :: l, 0, _, _, h => by
  have := h (by simp)
  simp at this
  simp [this]
 | a :: l, k + 1, hk, h1, h2 => by
  have h0 := h1 0 (by simp) (by omega)
  simp at h0
  have ih := takeWhile_at p l k (by simpa using hk) (fun j hj hjk => by have := h1 (j + 1) (by simpa using hj) (by omega); simpa using this) (fun h => by have := h2 (by simpa using h); simpa using this)
  simp [h0, ih]
theorem took_of {p : UInt8 → Bool} {bl : Nat} {s : ByteArray} {w w1 : World} {k : Nat} (hk : k ≤ s.size) (h1 : ∀ j (h : j < s.size), j < k → p (s[j]'h) = true) (h2 : ∀ h : k < s.size, p (s[k]'h) = false)
  (hb : w1.heap[bl]? = some (.cells #[.string s] 9 (0, 0))) (hg : w.grownBy w1 (some bl)) :
  Took p bl s w (.returned (.string (s.extract 0 k))) (w1.setCell ⟨bl, 0, none⟩ (.string (s.extract k s.size))) := by
 have hl : s.data.toList.length = s.size := by simp
 have := takeWhile_at p s.data.toList k (by omega) (fun j hj hjk => h1 j (by omega) hjk) (fun h => h2 (by omega))
 refine ⟨_, _, rfl, ?_, ?_, one_setCell hb, ?_⟩
 ·rw [extract_toList, this.1]; simp
 ·rw [extract_toList, this.2, List.take_of_length_le (by omega)]
 ·exact ⟨hg.os, hg.tape, hg.output, by have := hg.size; simpa [World.setCell] using this, fun j hj hne => by
   rw [Below.heap_setCell _ _ _ _ (fun e => hne (by rw [e]))]; exact hg.block j hj hne⟩
theorem took_all {p : UInt8 → Bool} {bl : Nat} {s : ByteArray} {w w1 : World} (h1 : ∀ j (h : j < s.size), j < s.size → p (s[j]'h) = true)
  (hb : w1.heap[bl]? = some (.cells #[.string s] 9 (0, 0))) (hg : w.grownBy w1 (some bl)) :
  Took p bl s w (.returned (.string s)) (w1.setCell ⟨bl, 0, none⟩ (.string ByteArray.empty)) := by
 have h := took_of (Nat.le_refl s.size) h1 (fun h => absurd h (Nat.lt_irrefl _)) hb hg
 have e1 : s.extract 0 s.size = s := by simp
 have e2 : s.extract s.size s.size = ByteArray.empty := by
  apply ByteArray.ext; apply Array.ext'; rw [extract_toList]; simp
 rwa [e1, e2] at h
theorem iter_block {w : World} {s : ByteArray} {n bl : Nat} {o : Obj} (h : w.heap[bl]? = some o) : (w.iter s n).heap[bl]? = some o :=
 (Below.heap_alloc w _ bl (lt_of_block h)).trans h
theorem iter_grown (w : World) (s : ByteArray) (n : Nat) (r : Option Nat) : w.grownBy (w.iter s n) r := World.grownBy_alloc w _ r
theorem chLetter_high (c : Nat) (h : 128 ≤ c) : chLetter (c : Int) = false := by simp [chLetter]; omega
theorem chDigit_high (c : Nat) (h : 128 ≤ c) : chDigit (c : Int) = false := by simp [chDigit]; omega
theorem chPart_high (c : Nat) (h : 128 ≤ c) : chPart (c : Int) = false := by simp [chPart, chLetter_high c h, chDigit_high c h]; omega
theorem chLetter_low (c : Nat) (h : chLetter (c : Int) = true) : c < 128 := by
 rcases Nat.lt_or_ge c 128 with h' | h'
 ·exact h'
 ·rw [chLetter_high c h'] at h; cases h
theorem chDigit_low (c : Nat) (h : chDigit (c : Int) = true) : c < 128 := by
 rcases Nat.lt_or_ge c 128 with h' | h'
 ·exact h'
 ·rw [chDigit_high c h'] at h; cases h
theorem chPart_low (c : Nat) (h : chPart (c : Int) = true) : c < 128 := by
 rcases Nat.lt_or_ge c 128 with h' | h'
 ·exact h'
 ·rw [chPart_high c h'] at h; cases h
set_option maxHeartbeats 400000 in
theorem take_letter (bl : Nat) (s : ByteArray) (w : World) (hb : w.heap[bl]? = some (.cells #[.string s] 9 (0, 0))) :
  Calls Tryz.prog 184 #[.func (.func 185) #[] #[], .pointer (some ⟨bl, 0, none⟩)] w (Took bLetter bl s w) := by
 have hc0 := cell_of_one hb
 have hci : ∀ n, (w.iter s n).cell? ⟨bl, 0, none⟩ = some (.string s) := fun n => cell_of_one (iter_block hb)
 have hfi : ∀ n, (w.iter s n).frozen? ⟨bl, 0, none⟩ = false := fun n => free_of_one (iter_block hb)
 have hbi : ∀ n, Hid ((w.iter s n).heap[bl]? = some (.cells #[.string s] 9 (0, 0))) := fun n => iter_block hb
 clear hb
 go_enter Tryz.func184, Tryz.ntmps184
 go_wp2
 go_loopw [4] (fun v wr => ∃ k : Nat, wr = w.iter s k ∧ k ≤ s.size ∧ v = .int .i64 s.size ∧ Hid (∀ j (h : j < s.size), j < k → bLetter (s[j]'h) = true)) (fun _ wr => s.size - wr.iterPos w.heap.size)
 case atStart => exact ⟨0, rfl, Nat.zero_le _, rfl, fun j _ h => absurd h (Nat.not_lt_zero _)⟩
 case round =>
  obtain ⟨k, rfl, hk, rfl, hall⟩ := hrel
  by_cases hp : k < s.size
  ·have hnx : ∀ ty, (Instr.next (.pointer (some ⟨w.heap.size, 0, none⟩)) true ty).run Tryz.prog (w.iter s k) = _ := fun ty => run_next_any w s k ty hp
   by_cases hq : chLetter ((s[k]'hp).toNat : Int) = true
   ·rw [decode_ascii s k hp (chLetter_low _ hq)] at hnx
    go_wp2_with (go_at_call 185; refine (isLetter_any _ _).mono ?_; rintro e w' ⟨rfl, rfl⟩)
    go_roundw
    case rel => exact ⟨k + 1, rfl, by omega, rfl, fun j h hj => (Nat.lt_succ_iff_lt_or_eq.1 hj).elim (hall.out j h) (fun e => by subst e; exact hq)⟩
    case measure => simp; omega
   ·have hqf : chLetter ((s[k]'hp).toNat : Int) = false := by simpa using hq
    have hcf : chLetter (((Utf8.decode s k).1 : Nat) : Int) = false := by
     by_cases ha : (s[k]'hp).toNat < 128
     ·rw [decode_ascii s k hp ha]; exact hqf
     ·exact chLetter_high _ (decode_high s k hp (by omega)).1
    clear hq
    generalize Utf8.decode s k = cw at hnx hcf
    go_wp2_with (go_at_call 185; refine (isLetter_any _ _).mono ?_; rintro e w' ⟨rfl, rfl⟩)
    go_ret
    exact took_of hk hall.out (fun _ => hqf) (hbi _).out (iter_grown _ _ _ _)
  ·have hnx : ∀ ty, (Instr.next (.pointer (some ⟨w.heap.size, 0, none⟩)) true ty).run Tryz.prog (w.iter s k) = _ := fun ty => run_next_end w s k ty hp
   obtain rfl : k = s.size := by omega
   go_wp2
   go_ret
   exact took_all hall.out (hbi _).out (iter_grown _ _ _ _)
set_option maxHeartbeats 400000 in
theorem take_digit (bl : Nat) (s : ByteArray) (w : World) (hb : w.heap[bl]? = some (.cells #[.string s] 9 (0, 0))) :
  Calls Tryz.prog 184 #[.func (.func 190) #[] #[], .pointer (some ⟨bl, 0, none⟩)] w (Took bDigit bl s w) := by
 have hc0 := cell_of_one hb
 have hci : ∀ n, (w.iter s n).cell? ⟨bl, 0, none⟩ = some (.string s) := fun n => cell_of_one (iter_block hb)
 have hfi : ∀ n, (w.iter s n).frozen? ⟨bl, 0, none⟩ = false := fun n => free_of_one (iter_block hb)
 have hbi : ∀ n, Hid ((w.iter s n).heap[bl]? = some (.cells #[.string s] 9 (0, 0))) := fun n => iter_block hb
 clear hb
 go_enter Tryz.func184, Tryz.ntmps184
 go_wp2
 go_loopw [4] (fun v wr => ∃ k : Nat, wr = w.iter s k ∧ k ≤ s.size ∧ v = .int .i64 s.size ∧ Hid (∀ j (h : j < s.size), j < k → bDigit (s[j]'h) = true)) (fun _ wr => s.size - wr.iterPos w.heap.size)
 case atStart => exact ⟨0, rfl, Nat.zero_le _, rfl, fun j _ h => absurd h (Nat.not_lt_zero _)⟩
 case round =>
  obtain ⟨k, rfl, hk, rfl, hall⟩ := hrel
  by_cases hp : k < s.size
  ·have hnx : ∀ ty, (Instr.next (.pointer (some ⟨w.heap.size, 0, none⟩)) true ty).run Tryz.prog (w.iter s k) = _ := fun ty => run_next_any w s k ty hp
   by_cases hq : chDigit ((s[k]'hp).toNat : Int) = true
   ·rw [decode_ascii s k hp (chDigit_low _ hq)] at hnx
    go_wp2_with (go_at_call 190; refine (isDigit_any _ _).mono ?_; rintro e w' ⟨rfl, rfl⟩)
    go_roundw
    case rel => exact ⟨k + 1, rfl, by omega, rfl, fun j h hj => (Nat.lt_succ_iff_lt_or_eq.1 hj).elim (hall.out j h) (fun e => by subst e; exact hq)⟩
    case measure => simp; omega
   ·have hqf : chDigit ((s[k]'hp).toNat : Int) = false := by simpa using hq
    have hcf : chDigit (((Utf8.decode s k).1 : Nat) : Int) = false := by
     by_cases ha : (s[k]'hp).toNat < 128
     ·rw [decode_ascii s k hp ha]; exact hqf
     ·exact chDigit_high _ (decode_high s k hp (by omega)).1
    clear hq
    generalize Utf8.decode s k = cw at hnx hcf
    go_wp2_with (go_at_call 190; refine (isDigit_any _ _).mono ?_; rintro e w' ⟨rfl, rfl⟩)
    go_ret
    exact took_of hk hall.out (fun _ => hqf) (hbi _).out (iter_grown _ _ _ _)
  ·have hnx : ∀ ty, (Instr.next (.pointer (some ⟨w.heap.size, 0, none⟩)) true ty).run Tryz.prog (w.iter s k) = _ := fun ty => run_next_end w s k ty hp
   obtain rfl : k = s.size := by omega
   go_wp2
   go_ret
   exact took_all hall.out (hbi _).out (iter_grown _ _ _ _)
set_option maxHeartbeats 400000 in
theorem take_part (bl : Nat) (s : ByteArray) (w : World) (hb : w.heap[bl]? = some (.cells #[.string s] 9 (0, 0))) :
  Calls Tryz.prog 184 #[.func (.func 197) #[] #[], .pointer (some ⟨bl, 0, none⟩)] w (Took bPart bl s w) := by
 have hc0 := cell_of_one hb
 have hci : ∀ n, (w.iter s n).cell? ⟨bl, 0, none⟩ = some (.string s) := fun n => cell_of_one (iter_block hb)
 have hfi : ∀ n, (w.iter s n).frozen? ⟨bl, 0, none⟩ = false := fun n => free_of_one (iter_block hb)
 have hbi : ∀ n, Hid ((w.iter s n).heap[bl]? = some (.cells #[.string s] 9 (0, 0))) := fun n => iter_block hb
 clear hb
 go_enter Tryz.func184, Tryz.ntmps184
 go_wp2
 go_loopw [4] (fun v wr => ∃ k : Nat, wr = w.iter s k ∧ k ≤ s.size ∧ v = .int .i64 s.size ∧ Hid (∀ j (h : j < s.size), j < k → bPart (s[j]'h) = true)) (fun _ wr => s.size - wr.iterPos w.heap.size)
 case atStart => exact ⟨0, rfl, Nat.zero_le _, rfl, fun j _ h => absurd h (Nat.not_lt_zero _)⟩
 case round =>
  obtain ⟨k, rfl, hk, rfl, hall⟩ := hrel
  by_cases hp : k < s.size
  ·have hnx : ∀ ty, (Instr.next (.pointer (some ⟨w.heap.size, 0, none⟩)) true ty).run Tryz.prog (w.iter s k) = _ := fun ty => run_next_any w s k ty hp
   by_cases hq : chPart ((s[k]'hp).toNat : Int) = true
   ·rw [decode_ascii s k hp (chPart_low _ hq)] at hnx
    go_wp2_with (go_at_call 197; refine (isPart_any _ _).mono ?_; rintro e w' ⟨rfl, rfl⟩)
    go_roundw
    case rel => exact ⟨k + 1, rfl, by omega, rfl, fun j h hj => (Nat.lt_succ_iff_lt_or_eq.1 hj).elim (hall.out j h) (fun e => by subst e; exact hq)⟩
    case measure => simp; omega
   ·have hqf : chPart ((s[k]'hp).toNat : Int) = false := by simpa using hq
    have hcf : chPart (((Utf8.decode s k).1 : Nat) : Int) = false := by
     by_cases ha : (s[k]'hp).toNat < 128
     ·rw [decode_ascii s k hp ha]; exact hqf
     ·exact chPart_high _ (decode_high s k hp (by omega)).1
    clear hq
    generalize Utf8.decode s k = cw at hnx hcf
    go_wp2_with (go_at_call 197; refine (isPart_any _ _).mono ?_; rintro e w' ⟨rfl, rfl⟩)
    go_ret
    exact took_of hk hall.out (fun _ => hqf) (hbi _).out (iter_grown _ _ _ _)
  ·have hnx : ∀ ty, (Instr.next (.pointer (some ⟨w.heap.size, 0, none⟩)) true ty).run Tryz.prog (w.iter s k) = _ := fun ty => run_next_end w s k ty hp
   obtain rfl : k = s.size := by omega
   go_wp2
   go_ret
   exact took_all hall.out (hbi _).out (iter_grown _ _ _ _)
theorem iter_cell {w : World} {s : ByteArray} {n : Nat} {a : Addr} {v : Value} (h : w.cell? a = some v) : (w.iter s n).cell? a = some v :=
 (iter_grown w s n none).cell h (by simp)
set_option maxHeartbeats 400000 in
theorem take_only (bl bo : Nat) (x : Int) (hx : x < 128) (s : ByteArray) (w : World) (hb : w.heap[bl]? = some (.cells #[.string s] 9 (0, 0))) (ho : w.cell? ⟨bo, 0, none⟩ = some (.int .i32 x)) :
  Calls Tryz.prog 184 #[.func (.func 196) #[] #[.pointer (some ⟨bo, 0, none⟩)], .pointer (some ⟨bl, 0, none⟩)] w (Took (bIs x) bl s w) := by
 have hc0 := cell_of_one hb
 have hci : ∀ n, (w.iter s n).cell? ⟨bl, 0, none⟩ = some (.string s) := fun n => cell_of_one (iter_block hb)
 have hfi : ∀ n, (w.iter s n).frozen? ⟨bl, 0, none⟩ = false := fun n => free_of_one (iter_block hb)
 have hbi : ∀ n, Hid ((w.iter s n).heap[bl]? = some (.cells #[.string s] 9 (0, 0))) := fun n => iter_block hb
 have hoi : ∀ n, Hid ((w.iter s n).cell? ⟨bo, 0, none⟩ = some (.int .i32 x)) := fun n => iter_cell ho
 clear hb ho
 go_enter Tryz.func184, Tryz.ntmps184
 go_wp2
 go_loopw [4] (fun v wr => ∃ k : Nat, wr = w.iter s k ∧ k ≤ s.size ∧ v = .int .i64 s.size ∧ Hid (∀ j (h : j < s.size), j < k → bIs x (s[j]'h) = true)) (fun _ wr => s.size - wr.iterPos w.heap.size)
 case atStart => exact ⟨0, rfl, Nat.zero_le _, rfl, fun j _ h => absurd h (Nat.not_lt_zero _)⟩
 case round =>
  obtain ⟨k, rfl, hk, rfl, hall⟩ := hrel
  by_cases hp : k < s.size
  ·have hnx : ∀ ty, (Instr.next (.pointer (some ⟨w.heap.size, 0, none⟩)) true ty).run Tryz.prog (w.iter s k) = _ := fun ty => run_next_any w s k ty hp
   by_cases hq : (((s[k]'hp).toNat : Int) == x) = true
   ·rw [decode_ascii s k hp (by simp at hq; omega)] at hnx
    go_wp2_with (go_at_call 196; refine (only1_any _ x bo _ ((hoi _).out)).mono ?_; rintro e w' ⟨rfl, rfl⟩)
    go_roundw
    case rel => exact ⟨k + 1, rfl, by omega, rfl, fun j h hj => (Nat.lt_succ_iff_lt_or_eq.1 hj).elim (hall.out j h) (fun e => by subst e; exact hq)⟩
    case measure => simp; omega
   ·have hqf : (((s[k]'hp).toNat : Int) == x) = false := by simpa using hq
    have hcf : ((((Utf8.decode s k).1 : Nat) : Int) == x) = false := by
     by_cases ha : (s[k]'hp).toNat < 128
     ·rw [decode_ascii s k hp ha]; exact hqf
     ·have := (decode_high s k hp (by omega)).1
      rw [beq_eq_false_iff_ne]; omega
    clear hq
    generalize Utf8.decode s k = cw at hnx hcf
    go_wp2_with (go_at_call 196; refine (only1_any _ x bo _ ((hoi _).out)).mono ?_; rintro e w' ⟨rfl, rfl⟩)
    go_ret
    exact took_of hk hall.out (fun _ => hqf) (hbi _).out (iter_grown _ _ _ _)
  ·have hnx : ∀ ty, (Instr.next (.pointer (some ⟨w.heap.size, 0, none⟩)) true ty).run Tryz.prog (w.iter s k) = _ := fun ty => run_next_end w s k ty hp
   obtain rfl : k = s.size := by omega
   go_wp2
   go_ret
   exact took_all hall.out (hbi _).out (iter_grown _ _ _ _)
theorem width_pos (s : ByteArray) (pos : Nat) (h : pos < s.size) : 1 ≤ (Utf8.decode s pos).2 := by
 by_cases ha : (s[pos]'h).toNat < 128
 ·rw [decode_ascii s pos h ha]
  exact Nat.le_refl _
 ·exact (decode_high s pos h (by omega)).2
set_option maxHeartbeats 400000 in
theorem take_anything (bl : Nat) (s : ByteArray) (w : World) (hb : w.heap[bl]? = some (.cells #[.string s] 9 (0, 0))) :
  Calls Tryz.prog 184 #[.func (.func 174) #[] #[], .pointer (some ⟨bl, 0, none⟩)] w (Took bAny bl s w) := by
 have hc0 := cell_of_one hb
 have hci : ∀ n, (w.iter s n).cell? ⟨bl, 0, none⟩ = some (.string s) := fun n => cell_of_one (iter_block hb)
 have hfi : ∀ n, (w.iter s n).frozen? ⟨bl, 0, none⟩ = false := fun n => free_of_one (iter_block hb)
 have hbi : ∀ n, Hid ((w.iter s n).heap[bl]? = some (.cells #[.string s] 9 (0, 0))) := fun n => iter_block hb
 clear hb
 go_enter Tryz.func184, Tryz.ntmps184
 go_wp2
 go_loopw [4] (fun v wr => ∃ k : Nat, wr = w.iter s k ∧ v = .int .i64 s.size) (fun _ wr => s.size - wr.iterPos w.heap.size)
 case atStart => exact ⟨0, rfl, rfl⟩
 case round =>
  obtain ⟨k, rfl, rfl⟩ := hrel
  by_cases hp : k < s.size
  ·have hnx : ∀ ty, (Instr.next (.pointer (some ⟨w.heap.size, 0, none⟩)) true ty).run Tryz.prog (w.iter s k) = _ := fun ty => run_next_any w s k ty hp
   have hw := width_pos s k hp
   generalize Utf8.decode s k = cw at hnx hw
   go_wp2_with (go_at_call 174; refine (anything_any _ _).mono ?_; rintro e w' ⟨rfl, rfl⟩)
   go_roundw
   case rel => exact ⟨_, rfl, rfl⟩
   case measure => simp; omega
  ·have hnx : ∀ ty, (Instr.next (.pointer (some ⟨w.heap.size, 0, none⟩)) true ty).run Tryz.prog (w.iter s k) = _ := fun ty => run_next_end w s k ty hp
   go_wp2
   go_ret
   exact took_all (fun _ _ _ => rfl) (hbi _).out (iter_grown _ _ _ _)
end Go.Proofs.YtgimdkgjfenafaaGreatDoor
namespace Go.Proofs.YtgimdkgjfenafaaGreatDoor
open Go.RowKit Go.Maps Go.WideMaps
def kindNum (l : List UInt8) : Int :=
 if l = [33] then 4 else if l = [97, 114, 114] then 3 else if l = [105] then 0 else if l = [105, 110, 100, 101, 120] then 1 else if l = [109, 101, 109] then 2 else 0
def kindOk (l : List UInt8) : Bool :=
 decide (l = [33]) || decide (l = [97, 114, 114]) || decide (l = [105]) || decide (l = [105, 110, 100, 101, 120]) || decide (l = [109, 101, 109])
def kindsD : DataW Unit := .map [(.string [33], .lit (.int .i64 4)), (.string [97, 114, 114], .lit (.int .i64 3)), (.string [105], .lit (.int .i64 0)), (.string [105, 110, 100, 101, 120], .lit (.int .i64 1)), (.string [109, 101, 109], .lit (.int .i64 2))]
theorem kindsD_eq : ((((((DataW.map [] : DataW Unit).put (.string [105]) (.lit (.int .i64 0))).put (.string [105, 110, 100, 101, 120]) (.lit (.int .i64 1))).put (.string [109, 101, 109]) (.lit (.int .i64 2))).put (.string [97, 114, 114]) (.lit (.int .i64 3))).put (.string [33]) (.lit (.int .i64 4))) = kindsD := by
 kernel_rfl
theorem kinds_at (l : List UInt8) : kindsD.atKey (.string l) (.lit (.int .i64 0)) = .lit (.int .i64 (kindNum l)) := by
 have e : ∀ a b : List UInt8, (Lit.string a).sameKey (.string b) = (a == b) := fun _ _ => rfl
 unfold kindsD kindNum DataW.atKey
 simp only [List.find?, e]
 by_cases h1 : l = [33]
 ·subst h1; rfl
 by_cases h2 : l = [97, 114, 114]
 ·subst h2; rfl
 by_cases h3 : l = [105]
 ·subst h3; rfl
 by_cases h4 : l = [105, 110, 100, 101, 120]
 ·subst h4; rfl
 by_cases h5 : l = [109, 101, 109]
 ·subst h5; rfl
 have f1 : (([33] : List UInt8) == l) = false := by rw [beq_eq_false_iff_ne]; exact fun e => h1 e.symm
 have f2 : (([97, 114, 114] : List UInt8) == l) = false := by rw [beq_eq_false_iff_ne]; exact fun e => h2 e.symm
 have f3 : (([105] : List UInt8) == l) = false := by rw [beq_eq_false_iff_ne]; exact fun e => h3 e.symm
 have f4 : (([105, 110, 100, 101, 120] : List UInt8) == l) = false := by rw [beq_eq_false_iff_ne]; exact fun e => h4 e.symm
 have f5 : (([109, 101, 109] : List UInt8) == l) = false := by rw [beq_eq_false_iff_ne]; exact fun e => h5 e.symm
 rw [f1, f2, f3, f4, f5]
 simp [h1, h2, h3, h4, h5]
theorem kinds_has (l : List UInt8) : Maps.has kindsD (.string l) = kindOk l := by
 have e : ∀ a b : List UInt8, (Lit.string a).sameKey (.string b) = (a == b) := fun _ _ => rfl
 unfold kindsD kindOk Maps.has
 simp only [List.any_cons, List.any_nil, e, Bool.or_false]
 rw [Bool.eq_iff_iff]
 simp only [Bool.or_eq_true, beq_iff_eq, decide_eq_true_eq, eq_comm (b := l), or_assoc]
theorem zeroKind (w : World) : (zeroValue 202).run Tryz.prog w = .ok (.int .i64 0) w := by kernel_rfl
theorem kinds_made (w : World) : ∃ w1 w2 w3 w4 w5 : World,
  (Instr.mapUpdate 272 (.map (some w.heap.size)) (.string ⟨#[105]⟩) (.int .i64 0)).run Tryz.prog (w.alloc (.map #[] 0)) = .ok () w1 ∧
  (Instr.mapUpdate 272 (.map (some w.heap.size)) (.string ⟨#[105, 110, 100, 101, 120]⟩) (.int .i64 1)).run Tryz.prog w1 = .ok () w2 ∧
  (Instr.mapUpdate 272 (.map (some w.heap.size)) (.string ⟨#[109, 101, 109]⟩) (.int .i64 2)).run Tryz.prog w2 = .ok () w3 ∧
  (Instr.mapUpdate 272 (.map (some w.heap.size)) (.string ⟨#[97, 114, 114]⟩) (.int .i64 3)).run Tryz.prog w3 = .ok () w4 ∧
  (Instr.mapUpdate 272 (.map (some w.heap.size)) (.string ⟨#[33]⟩) (.int .i64 4)).run Tryz.prog w4 = .ok () w5 ∧
  w5.ownsMap Tryz.prog 9 (plainElem Tryz.prog 202) w.heap.size 5 kindsD ∧ w.grownBy w5 none := by
 have hk : ∀ (s : ByteArray), s.size ≤ maxLen → keyOf Tryz.prog 9 (.string s) = some (.string s.data.toList) := fun s h => keyOf_string_mk Tryz.underlying9 h
 have hv : ∀ n : Int, (Lit.int .i64 n).wf = true → plainElem (H := Unit) Tryz.prog 202 (.int .i64 n) = some (.lit (.int .i64 n), []) := fun n h => plainElem_int Tryz.underlying202 h
 have o0 := World.ownsMap_made (H := Unit) w Tryz.prog 9 (plainElem Tryz.prog 202)
 obtain ⟨w1, r1, o1, g1⟩ := o0.update (string_keyed Tryz.underlying9) Tryz.underlying272 (by decide) (hk ⟨#[105]⟩ (by decide)) (hv 0 (by decide))
 obtain ⟨w2, r2, o2, g2⟩ := o1.update (string_keyed Tryz.underlying9) Tryz.underlying272 (by decide) (hk ⟨#[105, 110, 100, 101, 120]⟩ (by decide)) (hv 1 (by decide))
 obtain ⟨w3, r3, o3, g3⟩ := o2.update (string_keyed Tryz.underlying9) Tryz.underlying272 (by decide) (hk ⟨#[109, 101, 109]⟩ (by decide)) (hv 2 (by decide))
 obtain ⟨w4, r4, o4, g4⟩ := o3.update (string_keyed Tryz.underlying9) Tryz.underlying272 (by decide) (hk ⟨#[97, 114, 114]⟩ (by decide)) (hv 3 (by decide))
 obtain ⟨w5, r5, o5, g5⟩ := o4.update (string_keyed Tryz.underlying9) Tryz.underlying272 (by decide) (hk ⟨#[33]⟩ (by decide)) (hv 4 (by decide))
 have hd := kindsD_eq
 refine ⟨w1, w2, w3, w4, w5, r1, r2, r3, r4, r5, ?_, ?_⟩
 ·rw [← hd]; exact o5
 ·have hB : Below w.heap.size w w5 := ((((((Below.refl _ w).alloc (Nat.le_refl _) _).grown g1 (by simp) (fun k e => by cases e; exact Nat.le_refl _)).grown g2 (by have := g1.size; simp at this; omega) (fun k e => by cases e; exact Nat.le_refl _)).grown g3 (by have := g1.size; have := g2.size; simp at *; omega) (fun k e => by cases e; exact Nat.le_refl _)).grown g4 (by have := g1.size; have := g2.size; have := g3.size; simp at *; omega) (fun k e => by cases e; exact Nat.le_refl _)).grown g5 (by have := g1.size; have := g2.size; have := g3.size; have := g4.size; simp at *; omega) (fun k e => by cases e; exact Nat.le_refl _)
  exact ⟨hB.os, hB.tape, hB.output, hB.size, fun k hk _ => hB.block k hk⟩
set_option maxRecDepth 100000 in
theorem kinds_look {w : World} {b : Nat} (h : w.ownsMap Tryz.prog 9 (plainElem Tryz.prog 202) b 5 kindsD) (s : ByteArray) (hs : s.size ≤ maxLen) :
  (Instr.lookup 272 (.map (some b)) (.string s) true).run Tryz.prog w = .ok (.tuple #[.int .i64 (kindNum s.data.toList), .bool (kindOk s.data.toList)]) w := by
 obtain ⟨v, ps, hrun, hv⟩ := h.look_ok (string_keyed Tryz.underlying9) Tryz.underlying272 (zeroKind w) (plainElem_int Tryz.underlying202 (by decide)) (keyOf_string_mk Tryz.underlying9 hs)
 rw [kinds_at] at hv
 obtain ⟨a, rfl, he, _⟩ := plainElem_int_inv Tryz.underlying202 hv
 have : kindNum s.data.toList = a := by injection he with he _; injection he with he; injection he
 rw [hrun, kinds_has, this]
def kindSpec (l : List UInt8) : Int × Bool × List UInt8 :=
 if l.takeWhile bLetter = [] then (kindNum ((l.dropWhile bLetter).takeWhile (bIs 33)), kindOk ((l.dropWhile bLetter).takeWhile (bIs 33)), (l.dropWhile bLetter).dropWhile (bIs 33))
 else (kindNum (l.takeWhile bLetter), kindOk (l.takeWhile bLetter), l.dropWhile bLetter)
def KindPost (bl : Nat) (s : ByteArray) (w : World) (e : Ending) (w' : World) : Prop :=
 ∃ (k : Int) (ok : Bool) (q : ByteArray), e = .returned (.tuple #[.int .i64 k, .bool ok]) ∧ kindSpec s.data.toList = (k, ok, q.data.toList) ∧
  w'.heap[bl]? = some (.cells #[.string q] 9 (0, 0)) ∧ w.grownBy w' (some bl)
theorem grown_trans {a b c : World} {r : Option Nat} (h : a.grownBy b r) (k : b.grownBy c r) : a.grownBy c r :=
 ⟨k.os.trans h.os, k.tape.trans h.tape, k.output.trans h.output, Nat.le_trans h.size k.size, fun i hi hne => (k.block i (Nat.lt_of_lt_of_le hi h.size) hne).trans (h.block i hi hne)⟩
theorem grown_none {a b : World} (h : a.grownBy b none) (r : Option Nat) : a.grownBy b r :=
 ⟨h.os, h.tape, h.output, h.size, fun i hi _ => h.block i hi (by simp)⟩
theorem toList_data (r : ByteArray) : r.toList = r.data.toList := ByteArray.toList_eq r
theorem empty_of {r : ByteArray} (h : r.toList.isEmpty = true) : r.data.toList = [] := by rw [← toList_data]; simpa using h
theorem nonempty_of {r : ByteArray} (h : r.toList.isEmpty = false) : ¬ r.data.toList = [] := by rw [← toList_data]; intro e; rw [e] at h; cases h
theorem size_eq (r : ByteArray) : r.size = r.data.toList.length := by simp
theorem takeWhile_len (p : UInt8 → Bool) (l : List UInt8) : (l.takeWhile p).length ≤ l.length := by
 have := congrArg List.length (List.takeWhile_append_dropWhile (p := p) (l := l)); rw [List.length_append] at this; omega
theorem dropWhile_len (p : UInt8 → Bool) (l : List UInt8) : (l.dropWhile p).length ≤ l.length := by
 have := congrArg List.length (List.takeWhile_append_dropWhile (p := p) (l := l)); rw [List.length_append] at this; omega
theorem size_le_of {r s : ByteArray} {p : UInt8 → Bool} (h : r.data.toList = s.data.toList.takeWhile p) (hs : s.size ≤ 60) : r.size ≤ maxLen := by
 have := takeWhile_len p s.data.toList
 rw [size_eq, h]; rw [size_eq] at hs; unfold maxLen; omega
theorem size_le_of2 {r q s : ByteArray} {p p' : UInt8 → Bool} (h : r.data.toList = q.data.toList.takeWhile p) (h' : q.data.toList = s.data.toList.dropWhile p') (hs : s.size ≤ 60) : r.size ≤ maxLen := by
 have := takeWhile_len p q.data.toList
 have := dropWhile_len p' s.data.toList
 rw [← h'] at this
 rw [size_eq, h]; rw [size_eq] at hs; unfold maxLen; omega
set_option maxHeartbeats 400000 in
set_option maxRecDepth 100000 in
theorem kindOfWord_any (bl : Nat) (s : ByteArray) (hs : s.size ≤ 60) (w : World) (hb : w.heap[bl]? = some (.cells #[.string s] 9 (0, 0))) :
  Calls Tryz.prog 172 #[.func (.func 184) #[] #[.pointer (some ⟨bl, 0, none⟩)]] w (KindPost bl s w) := by
 obtain ⟨w1, w2, w3, w4, w5, r1, r2, r3, r4, r5, hown, hg⟩ := kinds_made w
 have hmm := @run_makeMap Tryz.prog
 have hb5 : Hid (w5.heap[bl]? = some (.cells #[.string s] 9 (0, 0))) := (hg.block bl (lt_of_block hb) (by simp)).trans hb
 have hblt := lt_of_block hb
 have hg' : Hid (w.grownBy w5 none) := hg
 clear hg hb
 go_enter Tryz.func172, Tryz.ntmps172
 go_wp2_with fail
 clear r1 r2 r3 r4 r5 hmm
 refine (take_letter bl s _ hb5.out).mono ?_
 rintro e w6 ⟨r, q, rfl, hr, hq, hb6, hg6⟩
 have Hr := Lib.hid hr
 have Hq := Lib.hid hq
 clear hr hq
 have Hb6 := Lib.hid hb6
 clear hb6
 have hown6 := hown.kept hg6 (by simp; omega)
 cases hre : r.toList.isEmpty
 ·have hlk := kinds_look hown6 r (size_le_of Hr.out hs)
  go_wp2_with fail
  go_ret2
  have h0 := nonempty_of hre
  refine ⟨_, _, q, rfl, ?_, Hb6.out, grown_trans (grown_none hg'.out _) hg6⟩
  rw [kindSpec, ← Hr.out, if_neg h0, ← Hq.out]
 ·have h0 := empty_of hre
  go_wp2_with fail
  refine (only_any 33 _).mono ?_
  rintro e w7 ⟨rfl, hw7⟩
  have hb7 : w7.heap[bl]? = some (.cells #[.string q] 9 (0, 0)) := by rw [← hw7]; exact (Below.heap_alloc _ _ _ (lt_of_block Hb6.out)).trans Hb6.out
  have ho7 : w7.cell? ⟨w6.heap.size, 0, none⟩ = some (.int .i32 33) := by rw [← hw7]; simp
  have hg7 : w6.grownBy w7 (some bl) := by rw [← hw7]; exact World.grownBy_alloc _ _ _
  clear hw7
  have hown7 := hown6.kept hg7 (by simp; omega)
  go_wp2_with fail
  refine (take_only bl w6.heap.size 33 (by omega) q _ hb7 ho7).mono ?_
  rintro e w8 ⟨r2, q2, rfl, hr2, hq2, hb8, hg8⟩
  have Hr2 := Lib.hid hr2
  have Hq2 := Lib.hid hq2
  clear hr2 hq2
  have Hb8 := Lib.hid hb8
  clear hb8 hb7 ho7
  have hown8 := hown7.kept hg8 (by simp; omega)
  have hlk := kinds_look hown8 r2 (size_le_of2 Hr2.out Hq.out hs)
  go_wp2_with fail
  go_ret2
  refine ⟨_, _, q2, rfl, ?_, Hb8.out, grown_trans (grown_trans (grown_trans (grown_none hg'.out _) hg6) hg7) hg8⟩
  rw [kindSpec, ← Hr.out, if_pos h0, ← Hq.out, ← Hr2.out, ← Hq2.out]
end Go.Proofs.YtgimdkgjfenafaaGreatDoor
