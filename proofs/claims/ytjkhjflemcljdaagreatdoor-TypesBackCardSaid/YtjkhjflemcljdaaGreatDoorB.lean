/-
  The reader's closure by contracts: with each of the predicates it takes the longest run of bytes that belong, and leaves the rest in its captured variable.
-/
import Derived.Test.YtjkhjflemcljdaaGreatDoorA
import Derived.Deep.LoopGhost
namespace Go.Proofs.YtjkhjflemcljdaaGreatDoor
open Go.RowKit

def bLetter (b : UInt8) : Bool := chLetter (b.toNat : Int)
def bDigit (b : UInt8) : Bool := chDigit (b.toNat : Int)
def bPart (b : UInt8) : Bool := chPart (b.toNat : Int)
def bIs (x : Int) (b : UInt8) : Bool := (b.toNat : Int) == x
def bAny (_ : UInt8) : Bool := true

/-- What a take leaves: the run, and the rest in the captured variable's block; nothing else turns. -/
def Took (p : UInt8 → Bool) (bl : Nat) (s : ByteArray) (w : World) (e : Ending) (w' : World) : Prop :=
  ∃ r q : ByteArray, e = .returned (.string r) ∧ r.data.toList = s.data.toList.takeWhile p ∧ q.data.toList = s.data.toList.dropWhile p ∧
    w'.heap[bl]? = some (.cells #[.string q] 9 (0, 0)) ∧ w.grownBy w' (some bl)

theorem extract_toList (s : ByteArray) (a b : Nat) : (s.extract a b).data.toList = (s.data.toList.take b).drop a := by
  simp [ByteArray.data_extract, Array.toList_extract, List.extract, List.drop_take]

theorem takeWhile_at (p : UInt8 → Bool) : ∀ (l : List UInt8) (k : Nat), k ≤ l.length → (∀ j (h : j < l.length), j < k → p l[j] = true) → (∀ h : k < l.length, p l[k] = false) →
    l.takeWhile p = l.take k ∧ l.dropWhile p = l.drop k
  | [], k, hk, _, _ => by simp
  | a :: l, 0, _, _, h => by
    have := h (by simp)
    simp at this
    simp [this]
  | a :: l, k + 1, hk, h1, h2 => by
    have h0 := h1 0 (by simp) (by omega)
    simp at h0
    have ih := takeWhile_at p l k (by simpa using hk) (fun j hj hjk => by have := h1 (j + 1) (by simpa using hj) (by omega); simpa using this) (fun h => by have := h2 (by simpa using h); simpa using this)
    simp [h0, ih]

theorem took_of {p : UInt8 → Bool} {bl : Nat} {s : ByteArray} {w w1 : World} {k : Nat} (hk : k ≤ s.size) (h1 : ∀ j (h : j < s.size), j < k → p (s[j]'h) = true) (h2 : ∀ h : k < s.size, p (s[k]'h) = false)
    (hb : w1.heap[bl]? = some (.cells #[.string s] 9 (0, 0))) (hg : w.grownBy w1 (some bl)) :
    Took p bl s w (.returned (.string (s.extract 0 k))) (w1.setCell ⟨bl, 0, none⟩ (.string (s.extract k s.size))) := by
  have hl : s.data.toList.length = s.size := by simp
  have := takeWhile_at p s.data.toList k (by omega) (fun j hj hjk => h1 j (by omega) hjk) (fun h => h2 (by omega))
  refine ⟨_, _, rfl, ?_, ?_, one_setCell hb, ?_⟩
  · rw [extract_toList, this.1]; simp
  · rw [extract_toList, this.2, List.take_of_length_le (by omega)]
  · exact ⟨hg.os, hg.tape, hg.output, by have := hg.size; simpa [World.setCell] using this, fun j hj hne => by
      rw [Below.heap_setCell _ _ _ _ (fun e => hne (by rw [e]))]; exact hg.block j hj hne⟩

theorem took_all {p : UInt8 → Bool} {bl : Nat} {s : ByteArray} {w w1 : World} (h1 : ∀ j (h : j < s.size), j < s.size → p (s[j]'h) = true)
    (hb : w1.heap[bl]? = some (.cells #[.string s] 9 (0, 0))) (hg : w.grownBy w1 (some bl)) :
    Took p bl s w (.returned (.string s)) (w1.setCell ⟨bl, 0, none⟩ (.string ByteArray.empty)) := by
  have h := took_of (Nat.le_refl s.size) h1 (fun h => absurd h (Nat.lt_irrefl _)) hb hg
  have e1 : s.extract 0 s.size = s := by simp
  have e2 : s.extract s.size s.size = ByteArray.empty := by
    apply ByteArray.ext; apply Array.ext'; rw [extract_toList]; simp
  rwa [e1, e2] at h

theorem iter_block {w : World} {s : ByteArray} {n bl : Nat} {o : Obj} (h : w.heap[bl]? = some o) : (w.iter s n).heap[bl]? = some o :=
  (Below.heap_alloc w _ bl (lt_of_block h)).trans h
theorem iter_grown (w : World) (s : ByteArray) (n : Nat) (r : Option Nat) : w.grownBy (w.iter s n) r := World.grownBy_alloc w _ r


theorem chLetter_high (c : Nat) (h : 128 ≤ c) : chLetter (c : Int) = false := by simp [chLetter]; omega
theorem chDigit_high (c : Nat) (h : 128 ≤ c) : chDigit (c : Int) = false := by simp [chDigit]; omega
theorem chPart_high (c : Nat) (h : 128 ≤ c) : chPart (c : Int) = false := by simp [chPart, chLetter_high c h, chDigit_high c h]; omega
theorem chLetter_low (c : Nat) (h : chLetter (c : Int) = true) : c < 128 := by
  rcases Nat.lt_or_ge c 128 with h' | h'
  · exact h'
  · rw [chLetter_high c h'] at h; cases h
theorem chDigit_low (c : Nat) (h : chDigit (c : Int) = true) : c < 128 := by
  rcases Nat.lt_or_ge c 128 with h' | h'
  · exact h'
  · rw [chDigit_high c h'] at h; cases h
theorem chPart_low (c : Nat) (h : chPart (c : Int) = true) : c < 128 := by
  rcases Nat.lt_or_ge c 128 with h' | h'
  · exact h'
  · rw [chPart_high c h'] at h; cases h

set_option maxHeartbeats 400000 in
theorem take_letter (bl : Nat) (s : ByteArray) (w : World) (hb : w.heap[bl]? = some (.cells #[.string s] 9 (0, 0))) :
    Calls Tryz.prog 77 #[.func (.func 78) #[] #[], .pointer (some ⟨bl, 0, none⟩)] w (Took bLetter bl s w) := by
  have hc0 := cell_of_one hb
  have hci : ∀ n, (w.iter s n).cell? ⟨bl, 0, none⟩ = some (.string s) := fun n => cell_of_one (iter_block hb)
  have hfi : ∀ n, (w.iter s n).frozen? ⟨bl, 0, none⟩ = false := fun n => free_of_one (iter_block hb)
  have hbi : ∀ n, Hid ((w.iter s n).heap[bl]? = some (.cells #[.string s] 9 (0, 0))) := fun n => iter_block hb
  clear hb
  go_enter Tryz.func77, Tryz.ntmps77
  go_wp2
  go_loopw [4] (fun v wr => ∃ k : Nat, wr = w.iter s k ∧ k ≤ s.size ∧ v = .int .i64 s.size ∧ Hid (∀ j (h : j < s.size), j < k → bLetter (s[j]'h) = true)) (fun _ wr => s.size - wr.iterPos w.heap.size)
  case atStart => exact ⟨0, rfl, Nat.zero_le _, rfl, fun j _ h => absurd h (Nat.not_lt_zero _)⟩
  case round =>
    obtain ⟨k, rfl, hk, rfl, hall⟩ := hrel
    by_cases hp : k < s.size
    · have hnx : ∀ ty, (Instr.next (.pointer (some ⟨w.heap.size, 0, none⟩)) true ty).run Tryz.prog (w.iter s k) = _ := fun ty => run_next_any w s k ty hp
      by_cases hq : chLetter ((s[k]'hp).toNat : Int) = true
      · rw [decode_ascii s k hp (chLetter_low _ hq)] at hnx
        go_wp2_with (go_at_call 78; refine (isLetter_any _ _).mono ?_; rintro e w' ⟨rfl, rfl⟩)
        go_roundw
        case rel => exact ⟨k + 1, rfl, by omega, rfl, fun j h hj => (Nat.lt_succ_iff_lt_or_eq.1 hj).elim (hall.out j h) (fun e => by subst e; exact hq)⟩
        case measure => simp; omega
      · have hqf : chLetter ((s[k]'hp).toNat : Int) = false := by simpa using hq
        have hcf : chLetter (((Utf8.decode s k).1 : Nat) : Int) = false := by
          by_cases ha : (s[k]'hp).toNat < 128
          · rw [decode_ascii s k hp ha]; exact hqf
          · exact chLetter_high _ (decode_high s k hp (by omega)).1
        clear hq
        generalize Utf8.decode s k = cw at hnx hcf
        go_wp2_with (go_at_call 78; refine (isLetter_any _ _).mono ?_; rintro e w' ⟨rfl, rfl⟩)
        go_ret
        exact took_of hk hall.out (fun _ => hqf) (hbi _).out (iter_grown _ _ _ _)
    · have hnx : ∀ ty, (Instr.next (.pointer (some ⟨w.heap.size, 0, none⟩)) true ty).run Tryz.prog (w.iter s k) = _ := fun ty => run_next_end w s k ty hp
      obtain rfl : k = s.size := by omega
      go_wp2
      go_ret
      exact took_all hall.out (hbi _).out (iter_grown _ _ _ _)

set_option maxHeartbeats 400000 in
theorem take_digit (bl : Nat) (s : ByteArray) (w : World) (hb : w.heap[bl]? = some (.cells #[.string s] 9 (0, 0))) :
    Calls Tryz.prog 77 #[.func (.func 83) #[] #[], .pointer (some ⟨bl, 0, none⟩)] w (Took bDigit bl s w) := by
  have hc0 := cell_of_one hb
  have hci : ∀ n, (w.iter s n).cell? ⟨bl, 0, none⟩ = some (.string s) := fun n => cell_of_one (iter_block hb)
  have hfi : ∀ n, (w.iter s n).frozen? ⟨bl, 0, none⟩ = false := fun n => free_of_one (iter_block hb)
  have hbi : ∀ n, Hid ((w.iter s n).heap[bl]? = some (.cells #[.string s] 9 (0, 0))) := fun n => iter_block hb
  clear hb
  go_enter Tryz.func77, Tryz.ntmps77
  go_wp2
  go_loopw [4] (fun v wr => ∃ k : Nat, wr = w.iter s k ∧ k ≤ s.size ∧ v = .int .i64 s.size ∧ Hid (∀ j (h : j < s.size), j < k → bDigit (s[j]'h) = true)) (fun _ wr => s.size - wr.iterPos w.heap.size)
  case atStart => exact ⟨0, rfl, Nat.zero_le _, rfl, fun j _ h => absurd h (Nat.not_lt_zero _)⟩
  case round =>
    obtain ⟨k, rfl, hk, rfl, hall⟩ := hrel
    by_cases hp : k < s.size
    · have hnx : ∀ ty, (Instr.next (.pointer (some ⟨w.heap.size, 0, none⟩)) true ty).run Tryz.prog (w.iter s k) = _ := fun ty => run_next_any w s k ty hp
      by_cases hq : chDigit ((s[k]'hp).toNat : Int) = true
      · rw [decode_ascii s k hp (chDigit_low _ hq)] at hnx
        go_wp2_with (go_at_call 83; refine (isDigit_any _ _).mono ?_; rintro e w' ⟨rfl, rfl⟩)
        go_roundw
        case rel => exact ⟨k + 1, rfl, by omega, rfl, fun j h hj => (Nat.lt_succ_iff_lt_or_eq.1 hj).elim (hall.out j h) (fun e => by subst e; exact hq)⟩
        case measure => simp; omega
      · have hqf : chDigit ((s[k]'hp).toNat : Int) = false := by simpa using hq
        have hcf : chDigit (((Utf8.decode s k).1 : Nat) : Int) = false := by
          by_cases ha : (s[k]'hp).toNat < 128
          · rw [decode_ascii s k hp ha]; exact hqf
          · exact chDigit_high _ (decode_high s k hp (by omega)).1
        clear hq
        generalize Utf8.decode s k = cw at hnx hcf
        go_wp2_with (go_at_call 83; refine (isDigit_any _ _).mono ?_; rintro e w' ⟨rfl, rfl⟩)
        go_ret
        exact took_of hk hall.out (fun _ => hqf) (hbi _).out (iter_grown _ _ _ _)
    · have hnx : ∀ ty, (Instr.next (.pointer (some ⟨w.heap.size, 0, none⟩)) true ty).run Tryz.prog (w.iter s k) = _ := fun ty => run_next_end w s k ty hp
      obtain rfl : k = s.size := by omega
      go_wp2
      go_ret
      exact took_all hall.out (hbi _).out (iter_grown _ _ _ _)

set_option maxHeartbeats 400000 in
theorem take_part (bl : Nat) (s : ByteArray) (w : World) (hb : w.heap[bl]? = some (.cells #[.string s] 9 (0, 0))) :
    Calls Tryz.prog 77 #[.func (.func 93) #[] #[], .pointer (some ⟨bl, 0, none⟩)] w (Took bPart bl s w) := by
  have hc0 := cell_of_one hb
  have hci : ∀ n, (w.iter s n).cell? ⟨bl, 0, none⟩ = some (.string s) := fun n => cell_of_one (iter_block hb)
  have hfi : ∀ n, (w.iter s n).frozen? ⟨bl, 0, none⟩ = false := fun n => free_of_one (iter_block hb)
  have hbi : ∀ n, Hid ((w.iter s n).heap[bl]? = some (.cells #[.string s] 9 (0, 0))) := fun n => iter_block hb
  clear hb
  go_enter Tryz.func77, Tryz.ntmps77
  go_wp2
  go_loopw [4] (fun v wr => ∃ k : Nat, wr = w.iter s k ∧ k ≤ s.size ∧ v = .int .i64 s.size ∧ Hid (∀ j (h : j < s.size), j < k → bPart (s[j]'h) = true)) (fun _ wr => s.size - wr.iterPos w.heap.size)
  case atStart => exact ⟨0, rfl, Nat.zero_le _, rfl, fun j _ h => absurd h (Nat.not_lt_zero _)⟩
  case round =>
    obtain ⟨k, rfl, hk, rfl, hall⟩ := hrel
    by_cases hp : k < s.size
    · have hnx : ∀ ty, (Instr.next (.pointer (some ⟨w.heap.size, 0, none⟩)) true ty).run Tryz.prog (w.iter s k) = _ := fun ty => run_next_any w s k ty hp
      by_cases hq : chPart ((s[k]'hp).toNat : Int) = true
      · rw [decode_ascii s k hp (chPart_low _ hq)] at hnx
        go_wp2_with (go_at_call 93; refine (isPart_any _ _).mono ?_; rintro e w' ⟨rfl, rfl⟩)
        go_roundw
        case rel => exact ⟨k + 1, rfl, by omega, rfl, fun j h hj => (Nat.lt_succ_iff_lt_or_eq.1 hj).elim (hall.out j h) (fun e => by subst e; exact hq)⟩
        case measure => simp; omega
      · have hqf : chPart ((s[k]'hp).toNat : Int) = false := by simpa using hq
        have hcf : chPart (((Utf8.decode s k).1 : Nat) : Int) = false := by
          by_cases ha : (s[k]'hp).toNat < 128
          · rw [decode_ascii s k hp ha]; exact hqf
          · exact chPart_high _ (decode_high s k hp (by omega)).1
        clear hq
        generalize Utf8.decode s k = cw at hnx hcf
        go_wp2_with (go_at_call 93; refine (isPart_any _ _).mono ?_; rintro e w' ⟨rfl, rfl⟩)
        go_ret
        exact took_of hk hall.out (fun _ => hqf) (hbi _).out (iter_grown _ _ _ _)
    · have hnx : ∀ ty, (Instr.next (.pointer (some ⟨w.heap.size, 0, none⟩)) true ty).run Tryz.prog (w.iter s k) = _ := fun ty => run_next_end w s k ty hp
      obtain rfl : k = s.size := by omega
      go_wp2
      go_ret
      exact took_all hall.out (hbi _).out (iter_grown _ _ _ _)

theorem iter_cell {w : World} {s : ByteArray} {n : Nat} {a : Addr} {v : Value} (h : w.cell? a = some v) : (w.iter s n).cell? a = some v :=
  (iter_grown w s n none).cell h (by simp)

set_option maxHeartbeats 400000 in
theorem take_only (bl bo : Nat) (x : Int) (hx : x < 128) (s : ByteArray) (w : World) (hb : w.heap[bl]? = some (.cells #[.string s] 9 (0, 0))) (ho : w.cell? ⟨bo, 0, none⟩ = some (.int .i32 x)) :
    Calls Tryz.prog 77 #[.func (.func 92) #[] #[.pointer (some ⟨bo, 0, none⟩)], .pointer (some ⟨bl, 0, none⟩)] w (Took (bIs x) bl s w) := by
  have hc0 := cell_of_one hb
  have hci : ∀ n, (w.iter s n).cell? ⟨bl, 0, none⟩ = some (.string s) := fun n => cell_of_one (iter_block hb)
  have hfi : ∀ n, (w.iter s n).frozen? ⟨bl, 0, none⟩ = false := fun n => free_of_one (iter_block hb)
  have hbi : ∀ n, Hid ((w.iter s n).heap[bl]? = some (.cells #[.string s] 9 (0, 0))) := fun n => iter_block hb
  have hoi : ∀ n, Hid ((w.iter s n).cell? ⟨bo, 0, none⟩ = some (.int .i32 x)) := fun n => iter_cell ho
  clear hb ho
  go_enter Tryz.func77, Tryz.ntmps77
  go_wp2
  go_loopw [4] (fun v wr => ∃ k : Nat, wr = w.iter s k ∧ k ≤ s.size ∧ v = .int .i64 s.size ∧ Hid (∀ j (h : j < s.size), j < k → bIs x (s[j]'h) = true)) (fun _ wr => s.size - wr.iterPos w.heap.size)
  case atStart => exact ⟨0, rfl, Nat.zero_le _, rfl, fun j _ h => absurd h (Nat.not_lt_zero _)⟩
  case round =>
    obtain ⟨k, rfl, hk, rfl, hall⟩ := hrel
    by_cases hp : k < s.size
    · have hnx : ∀ ty, (Instr.next (.pointer (some ⟨w.heap.size, 0, none⟩)) true ty).run Tryz.prog (w.iter s k) = _ := fun ty => run_next_any w s k ty hp
      by_cases hq : (((s[k]'hp).toNat : Int) == x) = true
      · rw [decode_ascii s k hp (by simp at hq; omega)] at hnx
        go_wp2_with (go_at_call 92; refine (only1_any _ x bo _ ((hoi _).out)).mono ?_; rintro e w' ⟨rfl, rfl⟩)
        go_roundw
        case rel => exact ⟨k + 1, rfl, by omega, rfl, fun j h hj => (Nat.lt_succ_iff_lt_or_eq.1 hj).elim (hall.out j h) (fun e => by subst e; exact hq)⟩
        case measure => simp; omega
      · have hqf : (((s[k]'hp).toNat : Int) == x) = false := by simpa using hq
        have hcf : ((((Utf8.decode s k).1 : Nat) : Int) == x) = false := by
          by_cases ha : (s[k]'hp).toNat < 128
          · rw [decode_ascii s k hp ha]; exact hqf
          · have := (decode_high s k hp (by omega)).1
            rw [beq_eq_false_iff_ne]; omega
        clear hq
        generalize Utf8.decode s k = cw at hnx hcf
        go_wp2_with (go_at_call 92; refine (only1_any _ x bo _ ((hoi _).out)).mono ?_; rintro e w' ⟨rfl, rfl⟩)
        go_ret
        exact took_of hk hall.out (fun _ => hqf) (hbi _).out (iter_grown _ _ _ _)
    · have hnx : ∀ ty, (Instr.next (.pointer (some ⟨w.heap.size, 0, none⟩)) true ty).run Tryz.prog (w.iter s k) = _ := fun ty => run_next_end w s k ty hp
      obtain rfl : k = s.size := by omega
      go_wp2
      go_ret
      exact took_all hall.out (hbi _).out (iter_grown _ _ _ _)

theorem width_pos (s : ByteArray) (pos : Nat) (h : pos < s.size) : 1 ≤ (Utf8.decode s pos).2 := by
  by_cases ha : (s[pos]'h).toNat < 128
  · rw [decode_ascii s pos h ha]
    exact Nat.le_refl _
  · exact (decode_high s pos h (by omega)).2

set_option maxHeartbeats 400000 in
theorem take_anything (bl : Nat) (s : ByteArray) (w : World) (hb : w.heap[bl]? = some (.cells #[.string s] 9 (0, 0))) :
    Calls Tryz.prog 77 #[.func (.func 70) #[] #[], .pointer (some ⟨bl, 0, none⟩)] w (Took bAny bl s w) := by
  have hc0 := cell_of_one hb
  have hci : ∀ n, (w.iter s n).cell? ⟨bl, 0, none⟩ = some (.string s) := fun n => cell_of_one (iter_block hb)
  have hfi : ∀ n, (w.iter s n).frozen? ⟨bl, 0, none⟩ = false := fun n => free_of_one (iter_block hb)
  have hbi : ∀ n, Hid ((w.iter s n).heap[bl]? = some (.cells #[.string s] 9 (0, 0))) := fun n => iter_block hb
  clear hb
  go_enter Tryz.func77, Tryz.ntmps77
  go_wp2
  go_loopw [4] (fun v wr => ∃ k : Nat, wr = w.iter s k ∧ v = .int .i64 s.size) (fun _ wr => s.size - wr.iterPos w.heap.size)
  case atStart => exact ⟨0, rfl, rfl⟩
  case round =>
    obtain ⟨k, rfl, rfl⟩ := hrel
    by_cases hp : k < s.size
    · have hnx : ∀ ty, (Instr.next (.pointer (some ⟨w.heap.size, 0, none⟩)) true ty).run Tryz.prog (w.iter s k) = _ := fun ty => run_next_any w s k ty hp
      have hw := width_pos s k hp
      generalize Utf8.decode s k = cw at hnx hw
      go_wp2_with (go_at_call 70; refine (anything_any _ _).mono ?_; rintro e w' ⟨rfl, rfl⟩)
      go_roundw
      case rel => exact ⟨_, rfl, rfl⟩
      case measure => simp; omega
    · have hnx : ∀ ty, (Instr.next (.pointer (some ⟨w.heap.size, 0, none⟩)) true ty).run Tryz.prog (w.iter s k) = _ := fun ty => run_next_end w s k ty hp
      go_wp2
      go_ret
      exact took_all (fun _ _ _ => rfl) (hbi _).out (iter_grown _ _ _ _)

end Go.Proofs.YtjkhjflemcljdaaGreatDoor
