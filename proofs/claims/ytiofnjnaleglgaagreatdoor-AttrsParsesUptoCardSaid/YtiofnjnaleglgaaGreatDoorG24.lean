/-
  Texts of mine in one file: AtG, AtH.
-/
import Derived.Test.YtiofnjnaleglgaaGreatDoorG17
import Derived.Test.YtiofnjnaleglgaaGreatDoorG21
import Derived.BigQuiet
import Derived.Deep.QuietTactic
import Derived.Lib.ConvBytes
import Derived.Lib.ParseIntBMem
import Derived.Lib.Strings
import Derived.Laws.Strings3
import Derived.Laws.Closers25
import Derived.Laws.Closers25b
import Derived.BigCall
import Derived.BigGuard
/-
  'escaped' by its contract: what stands for a byte in the string of a text.
-/
namespace Go.Proofs.YtiofnjnaleglgaaGreatDoor
open Go.RowKit

theorem add_bytes (x y z : ByteArray) (hz : z = x ++ y) (hx : x.size ≤ 1000000) (hy : y.size ≤ 1000000) (w : World) : (Op.stringOp .add x y).run Tryz.prog w = .ok (.string z) w := by
  rw [hz]; exact add_strings _ _ (by omega) (by omega) w
theorem enc_byte (x : Nat) (h : x < 128) : Utf8.encode (x : Int) = ⟨#[UInt8.ofNat x]⟩ := by
  have hv : Utf8.valid (x : Int) = true := by unfold Utf8.valid; simp; omega
  unfold Utf8.encode
  simp [hv, h]
theorem wrap_i32 (x : Nat) (h : x < 128) : IntKind.i32.wrap (x : Int) = x := by
  rw [IntKind.wrap_i32]; omega
theorem and_15 : ∀ c : Nat, c < 256 → bits BinOp.and IntKind.u8 (c : Int) 15 = ((c % 16 : Nat) : Int) := by decide +kernel
/-- The code of a hexadecimal digit. -/
def hexN (n : Nat) : Nat := if n < 10 then 48 + n else 87 + n
theorem hexN_low (n : Nat) (h : n < 16) : hexN n < 128 := by unfold hexN; split <;> omega
theorem hexD_N (n : Nat) : hexD n = UInt8.ofNat (hexN n) := by unfold hexD hexN; split <;> rfl
theorem index_hex (k : IntKind) : ∀ n : Nat, n < 16 → ∀ w, (Instr.index 9 (.string ⟨#[48, 49, 50, 51, 52, 53, 54, 55, 56, 57, 97, 98, 99, 100, 101, 102]⟩) (.int k (n : Int))).run Tryz.prog w = .ok (.int .u8 (hexN n : Int)) w
  | 0, _, _ | 1, _, _ | 2, _, _ | 3, _, _ | 4, _, _ | 5, _, _ | 6, _, _ | 7, _, _ | 8, _, _ | 9, _, _ | 10, _, _ | 11, _, _ | 12, _, _ | 13, _, _ | 14, _, _ | 15, _, _ => by
    rw [run_index_string _ _ _ _ _ Tryz.underlying9]; rfl
  | n + 16, h, _ => absurd h (by omega)
theorem drewN_below (w : World) (n : Nat) : Below w.heap.size w (w.drewN n) := ⟨rfl, rfl, rfl, Nat.le_refl _, fun _ _ => rfl⟩

def EscPost (c : Nat) (w : World) (e : Ending) (w' : World) : Prop := e = .returned (.string ⟨(quoteB (UInt8.ofNat c)).toArray⟩) ∧ Below w.heap.size w w'
theorem escPost_of {c : Nat} (hc : c < 256) {l : List UInt8} {w w' : World} (h : (if c = 34 then [92, 34] else if c = 92 then [92, 92] else if c = 10 then [92, 110] else if c < 32 ∨ 126 < c then [92, 120, hexD (c / 16), hexD (c % 16)] else [UInt8.ofNat c]) = l)
    (hb : Below w.heap.size w w') : EscPost c w (.returned (.string ⟨l.toArray⟩)) w' := by
  refine ⟨?_, hb⟩
  have e : (UInt8.ofNat c).toNat = c := by rw [UInt8.toNat_ofNat']; omega
  rw [← h]
  unfold quoteB
  rw [e]

set_option maxHeartbeats 400000 in
set_option maxRecDepth 100000 in
theorem esc_low (c : Nat) (hc : c < 256) (h1 : ¬ c = 34) (h2 : ¬ c = 92) (h3 : ¬ c = 10) (h4 : c < 32) (w : World) : Calls Tryz.prog 137 #[.int .u8 c] w (EscPost c w) := by
  have hf := Lib.hid (show (if c = 34 then [92, 34] else if c = 92 then [92, 92] else if c = 10 then [92, 110] else if c < 32 ∨ 126 < c then [92, 120, hexD (c / 16), hexD (c % 16)] else [UInt8.ofNat c]) = [92, 120, UInt8.ofNat (hexN (c / 16)), UInt8.ofNat (hexN (c % 16))] by
    rw [if_neg h1, if_neg h2, if_neg h3, if_pos (by omega), hexD_N, hexD_N])
  have k1 : ¬ (c : Int) = 34 := by omega
  have k2 : ¬ (c : Int) = 92 := by omega
  have k3 : ¬ (c : Int) = 10 := by omega
  have k4 : (c : Int) < 32 := by omega
  have hx := fun w => index_hex .u8 (c / 16) (by omega) w
  have hy := fun w => index_hex .u8 (c % 16) (by omega) w
  have hx1 := hexN_low (c / 16) (by omega)
  have hy1 := hexN_low (c % 16) (by omega)
  rw [show ((c / 16 : Nat) : Int) = (c : Int) / 16 by omega] at hx
  rw [← and_15 c hc] at hy
  generalize hexN (c / 16) = x at hx hx1 hf
  generalize hexN (c % 16) = y at hy hy1 hf
  have hx2 : (x : Int) < 128 := by omega
  have hy2 : (y : Int) < 128 := by omega
  have ex : Utf8.encode (IntKind.i32.wrap (x : Int)) = ⟨#[UInt8.ofNat x]⟩ := by rw [wrap_i32 x hx1]; exact enc_byte x hx1
  have ey : Utf8.encode (IntKind.i32.wrap (y : Int)) = ⟨#[UInt8.ofNat y]⟩ := by rw [wrap_i32 y hy1]; exact enc_byte y hy1
  have ha := fun w => add_bytes ⟨#[92, 120]⟩ ⟨#[UInt8.ofNat x]⟩ ⟨#[92, 120, UInt8.ofNat x]⟩ rfl (by decide) (by decide : 1 ≤ 1000000) w
  have hb := fun w => add_bytes ⟨#[92, 120, UInt8.ofNat x]⟩ ⟨#[UInt8.ofNat y]⟩ ⟨#[92, 120, UInt8.ofNat x, UInt8.ofNat y]⟩ rfl (by decide : 3 ≤ 1000000) (by decide : 1 ≤ 1000000) w
  clear h1 h2 h3
  go_enter Tryz.func137, Tryz.ntmps137
  go_wp2_with fail
  go_quiet (fail)
  go_wp2_with fail
  go_ret
  exact escPost_of hc hf.out (drewN_below _ _)

set_option maxHeartbeats 400000 in
set_option maxRecDepth 100000 in
theorem esc_high (c : Nat) (hc : c < 256) (h1 : ¬ c = 34) (h2 : ¬ c = 92) (h3 : ¬ c = 10) (h4 : ¬ c < 32) (h5 : 126 < c) (w : World) : Calls Tryz.prog 137 #[.int .u8 c] w (EscPost c w) := by
  have hf := Lib.hid (show (if c = 34 then [92, 34] else if c = 92 then [92, 92] else if c = 10 then [92, 110] else if c < 32 ∨ 126 < c then [92, 120, hexD (c / 16), hexD (c % 16)] else [UInt8.ofNat c]) = [92, 120, UInt8.ofNat (hexN (c / 16)), UInt8.ofNat (hexN (c % 16))] by
    rw [if_neg h1, if_neg h2, if_neg h3, if_pos (by omega), hexD_N, hexD_N])
  have k1 : ¬ (c : Int) = 34 := by omega
  have k2 : ¬ (c : Int) = 92 := by omega
  have k3 : ¬ (c : Int) = 10 := by omega
  have k4 : ¬ (c : Int) < 32 := by omega
  have k5 : 126 < (c : Int) := by omega
  have hx := fun w => index_hex .u8 (c / 16) (by omega) w
  have hy := fun w => index_hex .u8 (c % 16) (by omega) w
  have hx1 := hexN_low (c / 16) (by omega)
  have hy1 := hexN_low (c % 16) (by omega)
  rw [show ((c / 16 : Nat) : Int) = (c : Int) / 16 by omega] at hx
  rw [← and_15 c hc] at hy
  generalize hexN (c / 16) = x at hx hx1 hf
  generalize hexN (c % 16) = y at hy hy1 hf
  have hx2 : (x : Int) < 128 := by omega
  have hy2 : (y : Int) < 128 := by omega
  have ex : Utf8.encode (IntKind.i32.wrap (x : Int)) = ⟨#[UInt8.ofNat x]⟩ := by rw [wrap_i32 x hx1]; exact enc_byte x hx1
  have ey : Utf8.encode (IntKind.i32.wrap (y : Int)) = ⟨#[UInt8.ofNat y]⟩ := by rw [wrap_i32 y hy1]; exact enc_byte y hy1
  have ha := fun w => add_bytes ⟨#[92, 120]⟩ ⟨#[UInt8.ofNat x]⟩ ⟨#[92, 120, UInt8.ofNat x]⟩ rfl (by decide) (by decide : 1 ≤ 1000000) w
  have hb := fun w => add_bytes ⟨#[92, 120, UInt8.ofNat x]⟩ ⟨#[UInt8.ofNat y]⟩ ⟨#[92, 120, UInt8.ofNat x, UInt8.ofNat y]⟩ rfl (by decide : 3 ≤ 1000000) (by decide : 1 ≤ 1000000) w
  clear h1 h2 h3
  go_enter Tryz.func137, Tryz.ntmps137
  go_wp2_with fail
  go_quiet (fail)
  go_wp2_with fail
  go_ret
  exact escPost_of hc hf.out (drewN_below _ _)

theorem escPost_enc {c : Nat} {x y : ByteArray} {w w' : World} (h : x = y) (k : EscPost c w (.returned (.string y)) w') : EscPost c w (.returned (.string x)) w' := by rw [h]; exact k
set_option maxHeartbeats 400000 in
theorem esc_plain (c : Nat) (hc : c < 256) (h1 : ¬ c = 34) (h2 : ¬ c = 92) (h3 : ¬ c = 10) (h4 : ¬ c < 32) (h5 : ¬ 126 < c) (w : World) : Calls Tryz.prog 137 #[.int .u8 c] w (EscPost c w) := by
  have hf := Lib.hid (show (if c = 34 then [92, 34] else if c = 92 then [92, 92] else if c = 10 then [92, 110] else if c < 32 ∨ 126 < c then [92, 120, hexD (c / 16), hexD (c % 16)] else [UInt8.ofNat c]) = [UInt8.ofNat c] by
    rw [if_neg h1, if_neg h2, if_neg h3, if_neg (by omega)])
  have k1 : ¬ (c : Int) = 34 := by omega
  have k2 : ¬ (c : Int) = 92 := by omega
  have k3 : ¬ (c : Int) = 10 := by omega
  have k4 : ¬ (c : Int) < 32 := by omega
  have k5 : ¬ 126 < (c : Int) := by omega
  go_enter Tryz.func137, Tryz.ntmps137
  go_wp2_with fail
  go_ret
  exact escPost_enc (enc_byte c (by omega)) (escPost_of hc hf.out (Below.refl _ _))

set_option maxHeartbeats 400000 in
set_option maxRecDepth 100000 in
theorem escaped_nat (c : Nat) (hc : c < 256) (w : World) : Calls Tryz.prog 137 #[.int .u8 c] w (EscPost c w) := by
  by_cases h1 : c = 34
  · subst h1
    go_enter Tryz.func137, Tryz.ntmps137
    go_wp2_with fail
    go_ret
    exact escPost_of hc rfl (Below.refl _ _)
  have k1 : ¬ (c : Int) = 34 := by omega
  by_cases h2 : c = 92
  · subst h2
    go_enter Tryz.func137, Tryz.ntmps137
    go_wp2_with fail
    go_ret
    exact escPost_of hc rfl (Below.refl _ _)
  have k2 : ¬ (c : Int) = 92 := by omega
  by_cases h3 : c = 10
  · subst h3
    go_enter Tryz.func137, Tryz.ntmps137
    go_wp2_with fail
    go_ret
    exact escPost_of hc rfl (Below.refl _ _)
  have k3 : ¬ (c : Int) = 10 := by omega
  by_cases h4 : c < 32
  · exact esc_low c hc h1 h2 h3 h4 w
  by_cases h5 : 126 < c
  · exact esc_high c hc h1 h2 h3 h4 h5 w
  exact esc_plain c hc h1 h2 h3 h4 h5 w
theorem escPost_back {b : UInt8} {w w' : World} {e : Ending} (h : EscPost b.toNat w e w') : e = .returned (.string ⟨(quoteB b).toArray⟩) ∧ Below w.heap.size w w' := by
  have e1 : UInt8.ofNat b.toNat = b := UInt8.ofNat_toNat
  obtain ⟨h1, h2⟩ := h
  rw [e1] at h1
  exact ⟨h1, h2⟩
theorem escaped_any (b : UInt8) (w : World) : Calls Tryz.prog 137 #[.int .u8 (b.toNat : Int)] w fun e w' => e = .returned (.string ⟨(quoteB b).toArray⟩) ∧ Below w.heap.size w w' :=
  (escaped_nat b.toNat (by have := b.toNat_lt; omega) w).mono fun _ _ h => escPost_back h
end Go.Proofs.YtiofnjnaleglgaaGreatDoor

/-
  'strconv.ParseUint' of two bytes at base 16: the byte that two hexadecimal digits stand for, or an error.
-/
namespace Go.Proofs.YtiofnjnaleglgaaGreatDoor
open Go.RowKit

theorem or_32 : ∀ c : Nat, c < 256 → bits BinOp.or IntKind.u8 (c : Int) 32 = ((c ||| 32 : Nat) : Int) := by decide +kernel
theorem hexD_cases : ∀ a : Nat, a < 16 → ((hexD a).toNat = 48 + a ∧ a ≤ 9) ∨ ((hexD a).toNat = 87 + a ∧ 10 ≤ a ∧ ((hexD a).toNat ||| 32) = 87 + a) := by decide +kernel

theorem or_95 : bits BinOp.or IntKind.u8 95 32 = 127 := by decide
set_option maxHeartbeats 1000000 in
set_option maxRecDepth 100000 in
theorem lower_is (c : Nat) (hc : c < 256) (w : World) : Calls Tryz.prog 171 #[.int .u8 c] w fun e w' => e = .returned (.int .u8 ((c ||| 32 : Nat) : Int)) ∧ w = w' := by
  have h := or_32 c hc
  go_enter Tryz.func171, Tryz.ntmps171
  go_wp2
  go_ret
  exact ⟨by rw [← h]; rfl, rfl⟩

/-- So much two bytes tell, k of them read. -/
def hexSo (bs : List UInt8) (k acc : Nat) : Prop := ∀ a b, a < 16 → b < 16 → bs = [hexD a, hexD b] → acc = (if k = 0 then 0 else if k = 1 then a else 16 * a + b)
def isHex (bs : List UInt8) : Prop := ∃ a b, a < 16 ∧ b < 16 ∧ bs = [hexD a, hexD b]
/-- The digit of a byte, if it is one. -/
def digitOf (c : Nat) : Option Nat := if 48 ≤ c ∧ c ≤ 57 then some (c - 48) else if 97 ≤ (c ||| 32) ∧ (c ||| 32) ≤ 102 then some ((c ||| 32) - 87) else none
theorem digitOf_hex {a : Nat} (h : a < 16) : digitOf (hexD a).toNat = some a := by
  unfold digitOf
  rcases hexD_cases a h with ⟨h1, h2⟩ | ⟨h1, h2, h3⟩
  · rw [h1, if_pos (by omega)]; congr 1; omega
  · rw [if_neg (by omega), h3, if_pos (by omega)]; congr 1; omega
theorem hexSo_next {bs : List UInt8} {k acc d : Nat} {c : UInt8} (h : hexSo bs k acc) (hk : k < 2) (hc : bs[k]? = some c) (hd : digitOf c.toNat = some d) : hexSo bs (k + 1) (acc * 16 + d) := by
  intro a b ha hb e
  have h0 := h a b ha hb e
  rw [e] at hc
  rcases (show k = 0 ∨ k = 1 by omega) with rfl | rfl
  · simp only [List.getElem?_cons_zero, Option.some.injEq] at hc
    rw [← hc, digitOf_hex ha] at hd
    cases hd
    simp at h0 ⊢
    omega
  · simp only [List.getElem?_cons_succ, List.getElem?_cons_zero, Option.some.injEq] at hc
    rw [← hc, digitOf_hex hb] at hd
    cases hd
    simp at h0 ⊢
    omega
theorem hex_bad {bs : List UInt8} {k : Nat} {c : UInt8} (hk : k < 2) (hc : bs[k]? = some c) (hd : digitOf c.toNat = none) : ¬ isHex bs := by
  rintro ⟨a, b, ha, hb, e⟩
  rw [e] at hc
  rcases (show k = 0 ∨ k = 1 by omega) with rfl | rfl
  · simp only [List.getElem?_cons_zero, Option.some.injEq] at hc
    rw [← hc, digitOf_hex ha] at hd
    cases hd
  · simp only [List.getElem?_cons_succ, List.getElem?_cons_zero, Option.some.injEq] at hc
    rw [← hc, digitOf_hex hb] at hd
    cases hd

/-- What comes of it: a byte, or the error of wrong digits. -/
def HexPost (bs : List UInt8) (w : World) (e : Ending) (w' : World) : Prop := Below w.heap.size w w' ∧
  ((∃ v : Nat, v ≤ 255 ∧ hexSo bs 2 v ∧ e = .returned (.tuple #[.int .u64 v, .nilIface])) ∨ (¬ isHex bs ∧ e = .returned (.tuple #[.int .u64 0, .iface 179 (.int .i64 2)])))

set_option maxHeartbeats 32000000 in
set_option maxRecDepth 100000 in
theorem parseUint16_in (t : ByteArray) (h2 : t.size = 2) (w : World) :
    Calls Tryz.prog 153 #[.string t, .int .i64 16, .int .i64 8] w (HexPost t.data.toList w) := by
  have hemp : t.toList.isEmpty = false := by
    rw [← decide_eq_emptyBytes]
    exact decide_eq_false (fun h => by rw [h] at h2; cases h2)
  have hcv := Lib.run_convert_string_bytes (P := Tryz.prog) w 9 56 5 t (u := .string) Tryz.underlying9 Tryz.underlying56 Tryz.underlying5
  have hB : ∀ j, j < t.size → (Lib.bytesWorld w 5 t).cell? ⟨w.heap.size, j, none⟩ = some (.int .u8 (t.data.toList.getD j 0).toNat) := fun j hj => Lib.bytesWorld_cell w 5 t j hj
  have HBL := Lib.hid (below_bytes w 5 t)
  obtain ⟨W1, hW1⟩ : ∃ W1, W1 = Lib.bytesWorld w 5 t := ⟨_, rfl⟩
  rw [← hW1] at hcv hB HBL
  clear hW1
  obtain ⟨bs, hL⟩ : ∃ bs, bs = t.data.toList := ⟨_, rfl⟩
  have hLn : bs.length = t.size := by rw [hL, Lib.size_eq]
  rw [← hL] at hB ⊢
  clear hL
  have hmv : IntKind.u64.wrap (IntKind.u64.wrap 256 - 1) = 255 := by
    rw [IntKind.wrap_u64, IntKind.wrap_u64]
    decide
  go_enter Tryz.func153, Tryz.ntmps153
  go_wp2
  go_loop [12, 13, 101] (fun vu vn vi => ∃ (k acc : Nat) (a : Int), vu = .bool false ∧ vn = .int .u64 a ∧ vi = .int .i64 k ∧ k ≤ 2 ∧ Hid (a = (acc : Int) ∧ acc < 16 ^ k ∧ hexSo bs k acc))
    (fun _ _ vi => 2 - (intOf vi).toNat)
  case atStart => exact ⟨0, 0, 0, rfl, rfl, rfl, by omega, rfl, by decide, fun a b _ _ _ => rfl⟩
  case round =>
    obtain ⟨k, acc, a, rfl, rfl, rfl, hk, hh⟩ := hrel
    obtain ⟨ha, hacc, hso⟩ := hh.out
    clear hh
    have a0 : 0 ≤ a := by omega
    by_cases hkn : k < 2
    · have hc := hB k (by omega)
      have hkt : (k : Int) < (t.size : Int) := by omega
      have hget : bs[k]? = some (bs.getD k 0) := by rw [List.getElem?_eq_getElem (by omega), List.getD, List.getElem?_eq_getElem (by omega)]; rfl
      generalize bs.getD k 0 = c at hc hget
      have hc256 : c.toNat < 256 := c.toNat_lt
      have a16 : a ≤ 15 := by rcases (show k = 0 ∨ k = 1 by omega) with rfl | rfl <;> simp at hacc <;> omega
      clear hB
      cases hd : digitOf c.toNat with
      | some d =>
        have hd16 : d < 16 := by unfold digitOf at hd; split at hd <;> first | (cases hd; omega) | (split at hd <;> cases hd; omega)
        have HN := Lib.hid (show a * 16 + (d : Int) = ((acc * 16 + d : Nat) : Int) ∧ acc * 16 + d < 16 ^ (k + 1) ∧ hexSo bs (k + 1) (acc * 16 + d) from
          ⟨by omega, by rw [Nat.pow_succ]; omega, hexSo_next hso hkn hget hd⟩)
        unfold digitOf at hd
        by_cases hdig : 48 ≤ c.toNat ∧ c.toNat ≤ 57
        · rw [if_pos hdig] at hd
          obtain ⟨hd0, hd1⟩ := hdig
          have e : (d : Int) = (c.toNat : Int) - 48 := by cases hd; omega
          rw [e] at HN
          clear hd hso hacc ha hget e hd16
          go_wp2
          refine ⟨⟨k + 1, acc * 16 + d, a * 16 + ((c.toNat : Int) - 48), rfl, rfl, rfl, by omega, HN⟩, by simp [intOf]; omega⟩
        · rw [if_neg hdig] at hd
          have hlet : 97 ≤ (c.toNat ||| 32) ∧ (c.toNat ||| 32) ≤ 102 := by
            split at hd
            · assumption
            · cases hd
          rw [if_pos hlet] at hd
          have e : (d : Int) = ((c.toNat ||| 32 : Nat) : Int) - 97 + 10 := by cases hd; omega
          rw [e] at HN
          have hnd : ¬ (48 ≤ (c.toNat : Int) ∧ (c.toNat : Int) ≤ 57) := by omega
          have hn95 : ¬ (c.toNat : Int) = 95 := by
            intro e95
            have : c.toNat = 95 := by omega
            rw [this] at hlet
            revert hlet; decide
          have hlow := fun w => lower_is c.toNat hc256 w
          generalize (c.toNat ||| 32) = x at hlet HN hlow
          have hx0 : (97 : Int) ≤ x := by omega
          have hx1 : (x : Int) ≤ 102 := by omega
          clear hd hso hacc ha hget e hd16 hdig hlet
          go_wp2_with (go_at_call 171; refine (hlow _).mono ?_; rintro e w' ⟨rfl, rfl⟩)
          all_goals exact ⟨⟨k + 1, acc * 16 + d, a * 16 + ((x : Int) - 97 + 10), rfl, rfl, rfl, by omega, HN⟩, by simp [intOf]; omega⟩
      | none =>
        have hHP := Lib.hid (show HexPost bs w (.returned (.tuple #[.int .u64 0, .iface 179 (.int .i64 2)])) W1 from ⟨HBL.out, .inr ⟨hex_bad hkn hget hd, rfl⟩⟩)
        unfold digitOf at hd
        have hnd : ¬ (48 ≤ c.toNat ∧ c.toNat ≤ 57) := fun h => by rw [if_pos h] at hd; cases hd
        rw [if_neg hnd] at hd
        have hnl : ¬ (97 ≤ (c.toNat ||| 32) ∧ (c.toNat ||| 32) ≤ 102) := fun h => by rw [if_pos h] at hd; cases hd
        by_cases h95 : c.toNat = 95
        · have hlow := fun w => lower_is 95 (by decide) w
          rw [h95] at hc
          clear hd hso hacc ha hget hnl hnd hc256 h95
          go_wp2_with (go_at_call 171; refine (hlow _).mono ?_; rintro e w' ⟨rfl, rfl⟩)
          all_goals first | (exfalso; omega) | (go_ret2; exact hHP.out)
        have hn95 : ¬ (c.toNat : Int) = 95 := by omega
        have hlow := fun w => lower_is c.toNat hc256 w
        have hx256 : (c.toNat ||| 32) < 256 := Nat.or_lt_two_pow (n := 8) hc256 (by decide)
        generalize (c.toNat ||| 32) = x at hnl hlow hx256
        have hx1 : (x : Int) < 256 := by omega
        clear hd hso hacc ha hget
        go_wp2_with (go_at_call 171; refine (hlow _).mono ?_; rintro e w' ⟨rfl, rfl⟩)
        all_goals first | (exfalso; omega) | (go_ret2; exact hHP.out)
    · have hkk : k = 2 := by omega
      subst hkk
      have hHP := Lib.hid (show HexPost bs w (.returned (.tuple #[.int .u64 a, .nilIface])) W1 from ⟨HBL.out, .inl ⟨acc, by have := hacc; simp at this; omega, hso, by rw [ha]⟩⟩)
      clear hacc ha hso
      have hlen : ¬ (2 : Int) < (t.size : Int) := by omega
      have ht2 : (t.size : Int) = 2 := by omega
      go_wp2
      go_ret2
      exact hHP.out
end Go.Proofs.YtiofnjnaleglgaaGreatDoor

