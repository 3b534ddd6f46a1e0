import Derived.Test.YtgimdkgjfenafaaGreatDoorG17
import Derived.Test.YtgimdkgjfenafaaGreatDoorG14
import Derived.Test.YtgimdkgjfenafaaGreatDoorG18
import Derived.BigQuiet
namespace Go.Proofs.YtgimdkgjfenafaaGreatDoor
open Go.RowKit
set_option maxHeartbeats 400000 in
theorem Shaped_ref (k b : Int) (ao : Option Addr) (n c : Nat) (el : ByteArray) (w : World) :
  Calls Tryz.prog 89 #[.agg #[.int .i64 k, .int .i64 b, .slice ao n c, .string el]] w
   fun e w' => e = .returned (.bool (k == 2 || k == 3)) ∧ Below w.heap.size w w' := by
 cases h2 : (k == 2) <;>
 ·go_enter Tryz.func89, Tryz.ntmps89
  go_wp2
  go_ret
  exact ⟨rfl, (Below.refl _ _).alloc (Nat.le_refl _) _⟩
theorem ran_prod3 {es : List Int} (h3 : es.length ≤ 3) (hr : ∀ x ∈ es, 0 ≤ x ∧ x ≤ 1000) : 0 ≤ prodL es ∧ prodL es ≤ 1000000000 := by
 by_cases h2 : es.length ≤ 2
 ·have := ran_prod h2 hr
  omega
 ·obtain ⟨a, b, c, rfl⟩ : ∃ a b c, es = [a, b, c] := by
   match es, h2, h3 with
   | [a, b, c], _, _ => exact ⟨a, b, c, rfl⟩
   | [], h, _ => exact absurd (by simp) h
   | [_], h, _ => exact absurd (by simp) h
   | [_, _], h, _ => exact absurd (by simp) h
  have h1 := ran_prod (es := [a, b]) (by simp) (fun x hx => hr x (by simp at hx ⊢; omega))
  have hc := hr c (by simp)
  rw [show [a, b, c] = [a, b] ++ [c] from rfl, prodL_snoc]
  have := Int.mul_le_mul h1.2 hc.2 hc.1 (by omega)
  exact ⟨Int.mul_nonneg h1.1 hc.1, by omega⟩
theorem take_at {zs : List Int} {m : Nat} (hm : m < zs.length) : zs.take (m + 1) = zs.take m ++ [zs[m]?.getD 0] := by
 rw [List.take_add_one, List.getElem?_eq_getElem hm]
 rfl
theorem ran_at {zs : List Int} {m : Nat} (hm : m < zs.length) (hr : ∀ x ∈ zs, 0 ≤ x ∧ x ≤ 1000) : 0 ≤ zs[m]?.getD 0 ∧ zs[m]?.getD 0 ≤ 1000 := by
 rw [List.getElem?_eq_getElem hm]
 exact hr _ (List.getElem_mem hm)
theorem prod_step {zs : List Int} {m : Nat} (h3 : zs.length ≤ 3) (hr : ∀ x ∈ zs, 0 ≤ x ∧ x ≤ 1000) (hm : m < zs.length) {z : Int} (hz : z = zs[m]?.getD 0) :
  wrap64 (prodL (zs.take m) * z) = prodL (zs.take (m + 1)) := by
 subst hz
 rw [take_at hm, prodL_snoc]
 have := ran_prod3 (es := zs.take (m + 1)) (by simp; omega) (fun x hx => hr x (List.mem_of_mem_take hx))
 rw [take_at hm, prodL_snoc] at this
 exact IntWalk.wrap64_in _ ⟨by omega, by omega⟩
set_option maxHeartbeats 400000 in
theorem CellsT_ref (k b : Int) (ao : Option Addr) (zs : List Int) (c : Nat) (el : ByteArray) (h3 : zs.length ≤ 3) (hr : ∀ x ∈ zs, 0 ≤ x ∧ x ≤ 1000) (w : World) (hz : IntsAt w ao zs) :
  Calls Tryz.prog 140 #[.agg #[.int .i64 k, .int .i64 b, .slice ao zs.length c, .string el]] w
   fun e w' => e = .returned (.int .i64 (prodL zs)) ∧ Below w.heap.size w w' := by
 obtain ⟨w1, hw1⟩ : ∃ w1, w1 = w.alloc (.cells #[.int .i64 k, .int .i64 b, .slice ao zs.length c, .string el] 165) := ⟨_, rfl⟩
 have hb1 : Below w.heap.size w w1 := by rw [hw1]; exact (Below.refl _ _).alloc (Nat.le_refl _) _
 have HB1 := Lib.hid hb1
 have Hz := Lib.hid (hz.below hb1)
 have HR := Lib.hid hr
 have T1 := heap_alloc_new w (.cells #[.int .i64 k, .int .i64 b, .slice ao zs.length c, .string el] 165)
 rw [← hw1] at T1
 have HT1 := Lib.hid T1
 clear hz hr hb1 T1
 go_enter Tryz.func140, Tryz.ntmps140
 go_wp2_with fail
 rw [← hw1]
 clear hw1
 obtain ⟨c0, c1, c2, c3, cf⟩ := cells4 HT1.out
 go_loop [3, 4] (fun p i => ∃ m : Nat, m ≤ zs.length ∧ i = .int .i64 m ∧ p = .int .i64 (prodL (zs.take m))) (fun _ i => zs.length - (intOf i).toNat)
 case atStart => exact ⟨0, Nat.zero_le _, rfl, rfl⟩
 case round =>
  obtain ⟨m, hm, rfl, rfl⟩ := hrel
  by_cases hlt : m < zs.length
  ·rcases Hz.out with h0 | ⟨a, rfl, hc⟩
   ·rw [h0] at hlt; exact absurd hlt (Nat.not_lt_zero _)
   have hcm := hc m hlt
   have HC := Lib.hid hc
   clear hc
   obtain ⟨z, hz⟩ : ∃ z, z = zs[m]?.getD 0 := ⟨_, rfl⟩
   rw [← hz] at hcm
   have HS := Lib.hid (prod_step h3 HR.out hlt hz)
   clear hz
   go_wp2_with fail
   go_round
   case rel => exact ⟨m + 1, by omega, by go_num, by rw [← HS.out]⟩
   case measure => simp [intOf]; omega
  ·obtain rfl : m = zs.length := by omega
   go_wp2_with fail
   go_ret
   exact ⟨rfl, HB1.out⟩
theorem drawn_same {B : Nat} {a w : World} (h : Below B a w) (n : Nat) : Below B a (w.drewN n) := ⟨h.os, h.tape, h.output, h.size, h.block⟩
end Go.Proofs.YtgimdkgjfenafaaGreatDoor
namespace Go.Proofs.YtgimdkgjfenafaaGreatDoor
open Go.RowKit
def makeL (k : Int) (zs : List Int) (el : List UInt8) : Int × List UInt8 :=
 if numB el = false then (10, []) else if 4096 < prodL zs then (2, []) else (0, textHead k ++ zs.flatMap (fun x => Lib.itoa x ++ [120]) ++ el ++ [62])
theorem ext3_map (n : Nat) (z0 z1 z2 : Ext) : ext3 n z0 z1 z2 = (exts n z0 z1 z2).map (·.1) := by rw [exts_map]; rfl
theorem makeL_rest (k : Int) {n : Nat} (hn : n ≤ 3) (z0 z1 z2 : Ext) (el : List UInt8) : makeRest k n z0 z1 z2 el = makeL k (ext3 n z0 z1 z2) el := by
 unfold makeRest makeL textSpec extBytes
 rw [show prodL (ext3 n z0 z1 z2) = prodN n z0.1 z1.1 z2.1 from prodL_take hn, ext3_map, List.flatMap_map]
theorem add_lists (x y : List UInt8) (hx : x.length ≤ 4611686018427387904) (hy : y.length ≤ 4611686018427387903) (w : World) : (Op.stringOp .add ⟨x.toArray⟩ ⟨y.toArray⟩).run Tryz.prog w = .ok (.string ⟨(x ++ y).toArray⟩) w := by
 rw [add_strings _ _ (by simpa [ByteArray.size] using hx) (by simpa [ByteArray.size] using hy), ByteArray.mk_append_mk]
set_option maxHeartbeats 400000 in
theorem MakeR_kind (k : Int) (hk : ¬ (k = 2 ∨ k = 3)) (ao : Option Addr) (n c : Nat) (el : ByteArray) (w : World) :
  Calls Tryz.prog 94 #[.int .i64 k, .slice ao n c, .string el] w fun e w' => e = .returned (.tuple #[.string ⟨#[]⟩, .int .i64 1]) ∧ w = w' := by
 have h2 : (k != 2) = true := by simp only [bne_iff_ne]; omega
 have h3 : (k != 3) = true := by simp only [bne_iff_ne]; omega
 clear hk
 go_enter Tryz.func94, Tryz.ntmps94
 go_wp2_with fail
 go_ret2
 exact ⟨rfl, rfl⟩
set_option maxHeartbeats 400000 in
theorem MakeR_long (k : Int) (hk : k = 2 ∨ k = 3) (ao : Option Addr) (n c : Nat) (hn : 3 < n) (el : ByteArray) (w : World) :
  Calls Tryz.prog 94 #[.int .i64 k, .slice ao n c, .string el] w fun e w' => e = .returned (.tuple #[.string ⟨#[]⟩, .int .i64 1]) ∧ w = w' := by
 rcases hk with rfl | rfl
 all_goals
  go_enter Tryz.func94, Tryz.ntmps94
  go_wp2_with fail
  go_ret2
  exact ⟨rfl, rfl⟩
def madeTo (k : Int) (zs : List Int) (m : Nat) : List UInt8 := textHead k ++ (zs.take m).flatMap (fun x => Lib.itoa x ++ [120])
theorem madeTo_step {k : Int} {zs : List Int} {m : Nat} (hm : m < zs.length) {n : Nat} (hz : (n : Int) = zs[m]?.getD 0) : madeTo k zs m ++ Lib.decDigits n ++ [120] = madeTo k zs (m + 1) := by
 have hi : Lib.itoa (n : Int) = Lib.decDigits n := by rw [Lib.itoa, if_neg (by omega), Int.toNat_natCast]
 rw [madeTo, madeTo, take_at hm, List.flatMap_append, ← hz, List.flatMap_cons, hi]
 simp
theorem flat_len : ∀ l : List Int, (∀ x ∈ l, 0 ≤ x ∧ x ≤ 1000) → (l.flatMap (fun x => Lib.itoa x ++ [120])).length ≤ 5 * l.length
 | [], _ => by simp
 | x :: l, h => by
  have h1 := flat_len l (fun y hy => h y (by simp [hy]))
  have h2 := itoa_len (h x (by simp))
  simp only [List.flatMap_cons, List.length_append, List.length_cons, List.length_nil]
  omega
theorem madeTo_len {k : Int} {zs : List Int} (h3 : zs.length ≤ 3) (hr : ∀ x ∈ zs, 0 ≤ x ∧ x ≤ 1000) (m : Nat) : (madeTo k zs m).length ≤ 19 := by
 have h1 := flat_len (zs.take m) (fun x hx => hr x (List.mem_of_mem_take hx))
 have h2 : (zs.take m).length ≤ 3 := by rw [List.length_take]; omega
 have h3 : (textHead k).length = 4 := by unfold textHead; split <;> rfl
 rw [madeTo, List.length_append]
 omega
theorem digits_len {n : Nat} (h : n ≤ 1000) : (Lib.decDigits n).length ≤ 20 := decDigits_short (by omega)
theorem mk_size (l : List UInt8) : (⟨l.toArray⟩ : ByteArray).size = l.length := (size_eq _).trans rfl
theorem bytes_cat (x : List UInt8) (el : ByteArray) (y : List UInt8) : (⟨x.toArray⟩ ++ el ++ ⟨y.toArray⟩ : ByteArray) = ⟨(x ++ el.data.toList ++ y).toArray⟩ := by
 obtain ⟨a⟩ := el
 rw [ByteArray.mk_append_mk, ByteArray.mk_append_mk]
theorem made_end {x : ByteArray} {y : List UInt8} {w w' : World} {p : Int × List UInt8} (hx : x = ⟨y.toArray⟩) (h : p = (0, y)) (hb : Below w.heap.size w w') :
  Ending.returned (.tuple #[.string x, .int .i64 0]) = .returned (.tuple #[.string ⟨p.2.toArray⟩, .int .i64 p.1]) ∧ Below w.heap.size w w' := by subst h; subst hx; exact ⟨rfl, hb⟩
set_option maxHeartbeats 4000000 in
set_option maxRecDepth 100000 in
theorem MakeR_rest (k : Int) (hk : k = 2 ∨ k = 3) (ao : Option Addr) (zs : List Int) (c : Nat) (hn : zs.length ≤ 3) (hr : ∀ x ∈ zs, 0 ≤ x ∧ x ≤ 1000) (el : ByteArray) (w : World) (hz : IntsAt w ao zs) :
  Calls Tryz.prog 94 #[.int .i64 k, .slice ao zs.length c, .string el] w fun e w' =>
   e = .returned (.tuple #[.string ⟨(makeL k zs el.data.toList).2.toArray⟩, .int .i64 (makeL k zs el.data.toList).1]) ∧ Below w.heap.size w w' := by
 have Hz := Lib.hid hz
 have HR := Lib.hid hr
 have B1 := Lib.hid ((Below.refl w.heap.size w).alloc (Nat.le_refl _) (.cells #[.int .i64 0, .int .i64 0, .slice ao zs.length c, .string ⟨#[]⟩] 165))
 clear hz hr
 obtain ⟨K, hK⟩ : ∃ K, K = k := ⟨k, rfl⟩
 have HK := Lib.hid hK
 clear hK
 rcases hk with rfl | rfl
 all_goals
  go_enter Tryz.func94, Tryz.ntmps94
  go_wp2_with fail
  go_loop [8] (fun i => ∃ m : Nat, m ≤ zs.length ∧ i = .int .i64 m) (fun i => zs.length - (intOf i).toNat)
  case atStart => exact ⟨0, Nat.zero_le _, rfl⟩
  case round =>
   obtain ⟨m, hm, rfl⟩ := hrel
   by_cases hlt : m < zs.length
   ·rcases Hz.out with h0 | ⟨a, rfl, hc⟩
    ·rw [h0] at hlt
     exact absurd hlt (Nat.not_lt_zero _)
    have hcm := hc m hlt
    obtain ⟨hz0, hz1⟩ := ran_at hlt HR.out
    clear hc
    obtain ⟨z, hz⟩ : ∃ z, z = zs[m]?.getD 0 := ⟨_, rfl⟩
    rw [← hz] at hcm hz0 hz1
    clear hz
    go_wp2_with fail
    go_round
    case rel => exact ⟨m + 1, by omega, by go_num⟩
    case measure => simp [intOf]; omega
   ·obtain rfl : m = zs.length := by omega
    go_wp2_with fail
    refine (IsNumber_ref el _).mono ?_
    rintro e w1 ⟨rfl, rfl⟩
    cases hnb : (numberR el.data.toList).2.2
    ·have hf := Lib.hid (show ∀ k, makeL k zs el.data.toList = (10, []) from fun k => by rw [makeL, if_pos (by rw [numB_numberR]; exact hnb)])
     clear hnb
     go_wp2_with fail
     go_ret2
     exact pair_end (hf.out _) (Below.refl _ _)
    ·have hnb' := Lib.hid (show numB el.data.toList = true by rw [numB_numberR, hnb])
     clear hnb
     go_wp2_with fail
     refine (CellsT_ref 0 0 ao zs c ⟨#[]⟩ hn HR.out _ (Hz.out.below B1.out)).mono ?_
     rintro e w2 ⟨rfl, hb2⟩
     have B2 := Lib.hid (B1.out.trans (hb2.mono B1.out.size))
     clear hb2
     have hcl : decide (4096 < prodL zs) = true ∨ decide (4096 < prodL zs) = false := by cases decide (4096 < prodL zs) <;> simp
     rcases hcl with hcl | hcl
     ·have hf := Lib.hid (show ∀ k, makeL k zs el.data.toList = (2, []) from fun k => by rw [makeL, if_neg (by rw [hnb'.out]; simp), if_pos (of_decide_eq_true hcl)])
      go_wp2_with fail
      go_ret2
      exact pair_end (hf.out _) B2.out
     ·have hf := Lib.hid (show ∀ k, makeL k zs el.data.toList = (0, madeTo k zs zs.length ++ el.data.toList ++ [62]) from fun k => by
       rw [makeL, if_neg (by rw [hnb'.out]; simp), if_neg (of_decide_eq_false hcl), madeTo, List.take_length])
      have HZ2 := Lib.hid (Hz.out.below B2.out)
      go_wp2_with fail
      go_loop [10, 11] (fun s i => ∃ m : Nat, m ≤ zs.length ∧ i = .int .i64 m ∧ s = .string ⟨(madeTo K zs m).toArray⟩) (fun _ i => zs.length - (intOf i).toNat)
      case atStart => exact ⟨0, Nat.zero_le _, rfl, by rw [HK.out]; rfl⟩
      case round =>
       obtain ⟨m, hm, rfl, rfl⟩ := hrel
       have hml := madeTo_len (k := K) hn HR.out m
       by_cases hlt : m < zs.length
       ·rcases HZ2.out with h0 | ⟨a, rfl, hc⟩
        ·rw [h0] at hlt
         exact absurd hlt (Nat.not_lt_zero _)
        have hcm := hc m hlt
        obtain ⟨hz0, hz1⟩ := ran_at hlt HR.out
        clear hc
        obtain ⟨z, hz⟩ : ∃ z : Nat, (z : Int) = zs[m]?.getD 0 := ⟨(zs[m]?.getD 0).toNat, by omega⟩
        rw [← hz] at hcm hz0 hz1
        have HS := Lib.hid (madeTo_step (k := K) hlt hz)
        clear hz
        have hdl := digits_len (n := z) (by omega)
        go_wp2_with fail
        refine (Digits_any z (by omega) _).mono ?_
        rintro e w3 ⟨rfl, rfl⟩
        have hadd1 := add_lists (madeTo K zs m) (Lib.decDigits z) (by omega) (by omega) w2
        have hadd2 := add_lists (madeTo K zs m ++ Lib.decDigits z) [120] (by rw [List.length_append]; omega) (by simp) w2
        go_wp2_with fail
        go_round
        case rel => exact ⟨m + 1, by omega, by go_num, by rw [← HS.out, List.append_assoc]⟩
        case measure => simp [intOf]; omega
       ·obtain rfl : m = zs.length := by omega
        have hel := numB_len hnb'.out
        have hadd1 := add_strings ⟨(madeTo K zs zs.length).toArray⟩ el (by rw [mk_size]; omega) (by rw [size_eq]; omega) w2
        have hadd2 := add_strings (⟨(madeTo K zs zs.length).toArray⟩ ++ el) ⟨#[62]⟩ (by rw [ByteArray.size_append, mk_size, size_eq el]; omega) (by decide) w2
        clear hml hel
        go_wp2_with fail
        go_ret2
        exact made_end (bytes_cat _ _ [62]) ((hf.out _).trans (by rw [HK.out])) B2.out
end Go.Proofs.YtgimdkgjfenafaaGreatDoor
