/-
  Texts of mine in one file: BB, BC, JA.
-/
import Derived.Test.YtiofnjnaleglgaaGreatDoorG16
import Derived.Test.YtiofnjnaleglgaaGreatDoorG11
import Derived.Test.YtiofnjnaleglgaaGreatDoorG17
import Derived.BigQuiet
import Derived.Test.YtiofnjnaleglgaaGreatDoorG15
/-
  The reference's 'Shaped', 'Cells' and 'Make', and the law's 'same', by contracts.
-/
namespace Go.Proofs.YtiofnjnaleglgaaGreatDoor
open Go.RowKit

/-- The product of at most three extents. -/
theorem ran_prod3 {es : List Int} (h3 : es.length ≤ 3) (hr : ∀ x ∈ es, 0 ≤ x ∧ x ≤ 1000) : 0 ≤ prodL es ∧ prodL es ≤ 1000000000 := by
  by_cases h2 : es.length ≤ 2
  · have := ran_prod h2 hr
    omega
  · obtain ⟨a, b, c, rfl⟩ : ∃ a b c, es = [a, b, c] := by
      match es, h2, h3 with
      | [a, b, c], _, _ => exact ⟨a, b, c, rfl⟩
      | [], h, _ => exact absurd (by simp) h
      | [_], h, _ => exact absurd (by simp) h
      | [_, _], h, _ => exact absurd (by simp) h
    have h1 := ran_prod (es := [a, b]) (by simp) (fun x hx => hr x (by simp at hx ⊢; omega))
    have hc := hr c (by simp)
    rw [show [a, b, c] = [a, b] ++ [c] from rfl, prodL_snoc]
    have := Int.mul_le_mul h1.2 hc.2 hc.1 (by omega)
    exact ⟨Int.mul_nonneg h1.1 hc.1, by omega⟩
theorem take_at {zs : List Int} {m : Nat} (hm : m < zs.length) : zs.take (m + 1) = zs.take m ++ [zs[m]?.getD 0] := by
  rw [List.take_add_one, List.getElem?_eq_getElem hm]
  rfl
theorem ran_at {zs : List Int} {m : Nat} (hm : m < zs.length) (hr : ∀ x ∈ zs, 0 ≤ x ∧ x ≤ 1000) : 0 ≤ zs[m]?.getD 0 ∧ zs[m]?.getD 0 ≤ 1000 := by
  rw [List.getElem?_eq_getElem hm]
  exact hr _ (List.getElem_mem hm)
theorem prod_step {zs : List Int} {m : Nat} (h3 : zs.length ≤ 3) (hr : ∀ x ∈ zs, 0 ≤ x ∧ x ≤ 1000) (hm : m < zs.length) {z : Int} (hz : z = zs[m]?.getD 0) :
    wrap64 (prodL (zs.take m) * z) = prodL (zs.take (m + 1)) := by
  subst hz
  rw [take_at hm, prodL_snoc]
  have := ran_prod3 (es := zs.take (m + 1)) (by simp; omega) (fun x hx => hr x (List.mem_of_mem_take hx))
  rw [take_at hm, prodL_snoc] at this
  exact IntWalk.wrap64_in _ ⟨by omega, by omega⟩

theorem drawn_same {B : Nat} {a w : World} (h : Below B a w) (n : Nat) : Below B a (w.drewN n) := ⟨h.os, h.tape, h.output, h.size, h.block⟩
end Go.Proofs.YtiofnjnaleglgaaGreatDoor

/-
  The reference's 'Make' by contracts.
-/
namespace Go.Proofs.YtiofnjnaleglgaaGreatDoor
open Go.RowKit

/-- What the reference's 'Make' answers for right extents. -/
def makeL (k : Int) (zs : List Int) (el : List UInt8) : Int × List UInt8 :=
  if numB el = false then (10, []) else if 4096 < prodL zs then (2, []) else (0, textHead k ++ zs.flatMap (fun x => Lib.itoa x ++ [120]) ++ el ++ [62])

theorem ext3_map (n : Nat) (z0 z1 z2 : Ext) : ext3 n z0 z1 z2 = (exts n z0 z1 z2).map (·.1) := by rw [exts_map]; rfl
theorem makeL_rest (k : Int) {n : Nat} (hn : n ≤ 3) (z0 z1 z2 : Ext) (el : List UInt8) : makeRest k n z0 z1 z2 el = makeL k (ext3 n z0 z1 z2) el := by
  unfold makeRest makeL textSpec extBytes
  rw [show prodL (ext3 n z0 z1 z2) = prodN n z0.1 z1.1 z2.1 from prodL_take hn, ext3_map, List.flatMap_map]

theorem add_lists (x y : List UInt8) (hx : x.length ≤ 4611686018427387904) (hy : y.length ≤ 4611686018427387903) (w : World) : (Op.stringOp .add ⟨x.toArray⟩ ⟨y.toArray⟩).run Tryz.prog w = .ok (.string ⟨(x ++ y).toArray⟩) w := by
  rw [add_strings _ _ (by simpa [ByteArray.size] using hx) (by simpa [ByteArray.size] using hy), ByteArray.mk_append_mk]

/-- The string of the first m extents. -/
def madeTo (k : Int) (zs : List Int) (m : Nat) : List UInt8 := textHead k ++ (zs.take m).flatMap (fun x => Lib.itoa x ++ [120])
theorem madeTo_step {k : Int} {zs : List Int} {m : Nat} (hm : m < zs.length) {n : Nat} (hz : (n : Int) = zs[m]?.getD 0) : madeTo k zs m ++ Lib.decDigits n ++ [120] = madeTo k zs (m + 1) := by
  have hi : Lib.itoa (n : Int) = Lib.decDigits n := by rw [Lib.itoa, if_neg (by omega), Int.toNat_natCast]
  rw [madeTo, madeTo, take_at hm, List.flatMap_append, ← hz, List.flatMap_cons, hi]
  simp
theorem flat_len : ∀ l : List Int, (∀ x ∈ l, 0 ≤ x ∧ x ≤ 1000) → (l.flatMap (fun x => Lib.itoa x ++ [120])).length ≤ 5 * l.length
  | [], _ => by simp
  | x :: l, h => by
    have h1 := flat_len l (fun y hy => h y (by simp [hy]))
    have h2 := itoa_len (h x (by simp))
    simp only [List.flatMap_cons, List.length_append, List.length_cons, List.length_nil]
    omega
theorem madeTo_len {k : Int} {zs : List Int} (h3 : zs.length ≤ 3) (hr : ∀ x ∈ zs, 0 ≤ x ∧ x ≤ 1000) (m : Nat) : (madeTo k zs m).length ≤ 19 := by
  have h1 := flat_len (zs.take m) (fun x hx => hr x (List.mem_of_mem_take hx))
  have h2 : (zs.take m).length ≤ 3 := by rw [List.length_take]; omega
  have h3 : (textHead k).length = 4 := by unfold textHead; split <;> rfl
  rw [madeTo, List.length_append]
  omega
theorem digits_len {n : Nat} (h : n ≤ 1000) : (Lib.decDigits n).length ≤ 20 := decDigits_short (by omega)

theorem mk_size (l : List UInt8) : (⟨l.toArray⟩ : ByteArray).size = l.length := (size_eq _).trans rfl
theorem bytes_cat (x : List UInt8) (el : ByteArray) (y : List UInt8) : (⟨x.toArray⟩ ++ el ++ ⟨y.toArray⟩ : ByteArray) = ⟨(x ++ el.data.toList ++ y).toArray⟩ := by
  obtain ⟨a⟩ := el
  rw [ByteArray.mk_append_mk, ByteArray.mk_append_mk]
theorem made_end {x : ByteArray} {y : List UInt8} {w w' : World} {p : Int × List UInt8} (hx : x = ⟨y.toArray⟩) (h : p = (0, y)) (hb : Below w.heap.size w w') :
    Ending.returned (.tuple #[.string x, .int .i64 0]) = .returned (.tuple #[.string ⟨p.2.toArray⟩, .int .i64 p.1]) ∧ Below w.heap.size w w' := by subst h; subst hx; exact ⟨rfl, hb⟩

end Go.Proofs.YtiofnjnaleglgaaGreatDoor

/-
  'Join' by contracts, the program's and the reference's, and that a list that was joined is split again.
-/
namespace Go.Proofs.YtiofnjnaleglgaaGreatDoor
open Go.RowKit

theorem join_snoc : ∀ (ps : List (List UInt8)) (x : List UInt8), ps ≠ [] → Lib.join (ps ++ [x]) gap = Lib.join ps gap ++ gap ++ x
  | [], _, h => absurd rfl h
  | [a], x, _ => by rw [show [a] ++ [x] = a :: x :: [] from rfl, join_more, Lib.join_one, Lib.join_one]
  | a :: b :: r, x, _ => by
    have ih := join_snoc (b :: r) x (by simp)
    rw [show a :: b :: r ++ [x] = a :: b :: (r ++ [x]) from rfl, join_more, show b :: (r ++ [x]) = b :: r ++ [x] from rfl, ih, join_more]
    simp only [List.append_assoc]
/-- The list of these types. -/
def joinR (ps : List (List UInt8)) : List UInt8 := 40 :: (Lib.join ps gap ++ [41])
theorem isTy_len {l : List UInt8} (h : isTy l = true) : l.length ≤ 60 := by
  refine Nat.le_of_not_lt fun hl => ?_
  have e : descSpec l = descZero := by rw [descSpec, if_pos hl]
  rw [isTy, e] at h
  exact absurd h (by decide)
theorem join_len60 : ∀ ps : List (List UInt8), (∀ p ∈ ps, p.length ≤ 60) → (Lib.join ps gap).length ≤ 62 * ps.length
  | [], _ => by simp [Lib.join]
  | [a], h => by
    have := h a (by simp)
    rw [Lib.join_one, List.length_singleton]
    omega
  | a :: b :: r, h => by
    have ih := join_len60 (b :: r) (fun p hp => h p (List.mem_cons_of_mem _ hp))
    have ha := h a (by simp)
    rw [join_more]
    simp only [List.length_append, List.length_cons, List.length_nil] at *
    omega
theorem splitR_joinR {ps : List (List UInt8)} (h : ∀ p ∈ ps, isTyR p = true) : splitR (joinR ps) = some ps := by
  have hin : (joinR ps).tail.dropLast = Lib.join ps gap := by rw [joinR, List.tail_cons, List.dropLast_concat]
  rw [splitR, if_pos ⟨by simp [joinR], rfl, by rw [joinR, last_cons (by simp), List.getLast?_concat]⟩, hin]
  cases ps with
  | nil => rfl
  | cons p ps =>
    have hs := join_split (p :: ps) ((Lib.join (p :: ps) gap).length + 1) (by simp) h (Nat.lt_succ_self _)
    rw [if_neg, hs]
    intro e
    rw [e] at hs
    have hz : splitL (([] : List UInt8).length + 1) [] = none := by
      rw [splitL, List.takeWhile_nil, if_pos (by rw [← isTy_isTyR]; kernel_rfl)]
    rw [hz] at hs
    cases hs
theorem listR_joinR {ps : List (List UInt8)} (h : ∀ p ∈ ps, isTyR p = true) : listR (joinR ps) = if ps.length ≤ 100 then some ps else none := by
  rw [listR, splitR_joinR h, Option.bind_some]
theorem all_tyR {ss : List ByteArray} (h : ss.all (fun s => isTy s.data.toList) = true) : ∀ p ∈ ss.map (·.data.toList), isTyR p = true := by
  intro p hp
  obtain ⟨s, hs, rfl⟩ := List.mem_map.1 hp
  rw [← isTy_isTyR]
  exact List.all_eq_true.1 h s hs
theorem all_len {ss : List ByteArray} (h : ss.all (fun s => isTy s.data.toList) = true) : ∀ s ∈ ss, s.size ≤ 60 := by
  intro s hs
  rw [size_eq]
  exact isTy_len (List.all_eq_true.1 h s hs)
theorem join_size {ss : List ByteArray} (h : ∀ s ∈ ss, s.size ≤ 60) : (Lib.join (ss.map (·.data.toList)) gap).length ≤ 62 * ss.length := by
  have := join_len60 (ss.map (·.data.toList)) (fun p hp => by
    obtain ⟨s, hs, rfl⟩ := List.mem_map.1 hp
    rw [← size_eq]
    exact h s hs)
  rwa [List.length_map] at this

theorem strs_addr {w : World} {ao : Option Addr} {ss : List ByteArray} (h : StrsAt w ao ss) (hne : ss ≠ []) : ∃ bk o, ao = some ⟨bk, o, none⟩ ∧ bk < w.heap.size ∧ ∀ j x, ss[j]? = some x → w.cell? ⟨bk, o + j, none⟩ = some (.string x) := by
  rcases h with h | ⟨a, rfl, hc⟩
  · exact absurd h hne
  · have hpos : 0 < ss.length := List.length_pos_iff.2 hne
    have h0 := hc 0 hpos
    rw [addr_zero] at h0
    obtain ⟨bk, o, sp⟩ := a
    have hs : sp = none := by
      unfold World.cell? at h0
      cases sp with
      | none => rfl
      | some k => split at h0 <;> simp at h0
    subst hs
    refine ⟨bk, o, rfl, block_lt_of_cell h0, fun j x hx => ?_⟩
    have hj : j < ss.length := (List.getElem?_eq_some_iff.1 hx).1
    have := hc j hj
    rw [Addr.add_lit, hx] at this
    exact this

theorem strJoin_any (ao : Option Addr) (ss : List ByteArray) (c : Nat) (hcap : ss.length ≤ c) (hlen : ss.length ≤ 1000) (h60 : ∀ s ∈ ss, s.size ≤ 60) (w : World) (hz : StrsAt w ao ss) :
    Calls Tryz.prog 124 #[.slice ao ss.length c, .string ⟨#[44, 32]⟩] w fun e w' => e = .returned (.string ⟨(Lib.join (ss.map (·.data.toList)) gap).toArray⟩) ∧ Below w.heap.size w w' := by
  by_cases hne : ss = []
  · subst hne
    exact (Tryz.strings_Join_none ao c ⟨#[44, 32]⟩ w).mono fun e w' ⟨he, hw⟩ => ⟨he, hw ▸ Below.refl _ _⟩
  · obtain ⟨bk, o, rfl, hbk, hcells⟩ := strs_addr hz hne
    exact Tryz.strings_Join bk o c ss ⟨#[44, 32]⟩ w hcells hbk (by omega) hcap (Nat.le_trans (join_size h60) (by omega))

theorem add_named {x y z : List UInt8} (hz : z = x ++ y) (hx : x.length ≤ 1000000) (hy : y.length ≤ 1000000) (w : World) : (Op.stringOp .add ⟨x.toArray⟩ ⟨y.toArray⟩).run Tryz.prog w = .ok (.string ⟨z.toArray⟩) w := by
  rw [hz]
  exact add_lists x y (by omega) (by omega) w

set_option maxHeartbeats 400000 in
set_option maxRecDepth 100000 in
theorem Join_no (ao : Option Addr) (ss : List ByteArray) (c : Nat) (hn : ss.length ≤ 9223372036854775807) (hall : ss.all (fun s => isTy s.data.toList) = false) (w : World) (hz : StrsAt w ao ss) (hE : Env w) :
    Calls Tryz.prog 126 #[.slice ao ss.length c] w fun e w' => e = .returned (.tuple #[.string ⟨#[]⟩, .int .i64 10]) ∧ Below w.heap.size w w' := by
  have Hz := Lib.hid hz
  have HE := Lib.hid hE
  have HA := Lib.hid hall
  clear hz hE hall
  go_enter Tryz.func126, Tryz.ntmps126
  go_wp2_with fail
  refine (areTypes_any ao ss c hn _ Hz.out HE.out).mono ?_
  rintro e w1 ⟨rfl, hb1⟩
  have B1 := Lib.hid hb1
  clear hb1
  rw [HA.out]
  go_wp2_with fail
  go_ret2
  exact ⟨rfl, B1.out⟩

set_option maxHeartbeats 400000 in
set_option maxRecDepth 100000 in
theorem Join_long (ao : Option Addr) (ss : List ByteArray) (c : Nat) (hn : ss.length ≤ 9223372036854775807) (hall : ss.all (fun s => isTy s.data.toList) = true) (h100 : 100 < ss.length) (w : World) (hz : StrsAt w ao ss) (hE : Env w) :
    Calls Tryz.prog 126 #[.slice ao ss.length c] w fun e w' => e = .returned (.tuple #[.string ⟨#[]⟩, .int .i64 2]) ∧ Below w.heap.size w w' := by
  have Hz := Lib.hid hz
  have HE := Lib.hid hE
  have HA := Lib.hid hall
  clear hz hE hall
  go_enter Tryz.func126, Tryz.ntmps126
  go_wp2_with fail
  refine (areTypes_any ao ss c hn _ Hz.out HE.out).mono ?_
  rintro e w1 ⟨rfl, hb1⟩
  have B1 := Lib.hid hb1
  clear hb1
  rw [HA.out]
  go_wp2_with fail
  go_ret2
  exact ⟨rfl, B1.out⟩

set_option maxHeartbeats 400000 in
set_option maxRecDepth 100000 in
theorem Join_yes (ao : Option Addr) (ss : List ByteArray) (c : Nat) (hcap : ss.length ≤ c) (hall : ss.all (fun s => isTy s.data.toList) = true) (h100 : ss.length ≤ 100) (w : World) (hz : StrsAt w ao ss) (hE : Env w) :
    Calls Tryz.prog 126 #[.slice ao ss.length c] w fun e w' => e = .returned (.tuple #[.string ⟨(joinR (ss.map (·.data.toList))).toArray⟩, .int .i64 0]) ∧ Below w.heap.size w w' := by
  have Hz := Lib.hid hz
  have HE := Lib.hid hE
  have HA := Lib.hid hall
  have hjl := join_size (all_len hall)
  clear hz hE hall
  go_enter Tryz.func126, Tryz.ntmps126
  go_wp2_with fail
  refine (areTypes_any ao ss c (by omega) _ Hz.out HE.out).mono ?_
  rintro e w1 ⟨rfl, hb1⟩
  have B1 := Lib.hid hb1
  have Z1 := Lib.hid (Hz.out.below hb1)
  clear hb1
  rw [HA.out]
  go_wp2_with fail
  refine (strJoin_any ao ss c hcap (by omega) (all_len HA.out) _ Z1.out).mono ?_
  rintro e w2 ⟨rfl, hb2⟩
  have B2 := Lib.hid (B1.out.trans (hb2.mono B1.out.size))
  clear hb2
  obtain ⟨J, hJ⟩ : ∃ J, J = Lib.join (ss.map (·.data.toList)) gap := ⟨_, rfl⟩
  obtain ⟨J2, hJ2⟩ : ∃ J2, J2 = [40] ++ J := ⟨_, rfl⟩
  obtain ⟨J3, hJ3⟩ : ∃ J3, J3 = J2 ++ [41] := ⟨_, rfl⟩
  rw [← hJ] at hjl ⊢
  have hl2 : J2.length ≤ 1000000 := by rw [hJ2, List.length_append, List.length_singleton]; omega
  have hadd1 := add_named hJ2 (by decide) (by omega) w2
  have hadd2 := add_named hJ3 hl2 (by decide) w2
  have HJ := Lib.hid (show joinR (ss.map (·.data.toList)) = J3 by rw [hJ3, hJ2, hJ]; rfl)
  clear hJ hJ2 hJ3
  go_wp2_with fail
  go_ret2
  exact ⟨by rw [HJ.out]; rfl, B2.out⟩

/-- What the reference's 'Join' has made of the first m. -/
def joined (ss : List ByteArray) (m : Nat) : List UInt8 := 40 :: Lib.join ((ss.take m).map (·.data.toList)) gap
theorem take_str {ss : List ByteArray} {m : Nat} (hm : m < ss.length) : ss.take (m + 1) = ss.take m ++ [ss[m]?.getD ByteArray.empty] := by
  rw [List.take_add_one, List.getElem?_eq_getElem hm]
  rfl
theorem joined_first {ss : List ByteArray} (hm : 0 < ss.length) : joined ss 1 = joined ss 0 ++ (ss[0]?.getD ByteArray.empty).data.toList := by
  rw [joined, take_str hm]
  show 40 :: Lib.join [_] gap = _
  rw [Lib.join_one]
  rfl
theorem joined_next {ss : List ByteArray} {m : Nat} (hm : m < ss.length) (h0 : 0 < m) : joined ss (m + 1) = (joined ss m ++ gap) ++ (ss[m]?.getD ByteArray.empty).data.toList := by
  rw [joined, take_str hm, List.map_append, List.map_singleton, join_snoc _ _ (fun e => by
    have := congrArg List.length e
    rw [List.length_map, List.length_take, List.length_nil] at this
    omega), joined]
  simp only [List.cons_append]
theorem joined_len {ss : List ByteArray} (h : ∀ s ∈ ss, s.size ≤ 60) (h1000 : ss.length ≤ 1000) (m : Nat) : (joined ss m).length ≤ 62001 := by
  have h1 := join_size (ss := ss.take m) (fun s hs => h s (List.mem_of_mem_take hs))
  have h2 : (ss.take m).length ≤ 1000 := by rw [List.length_take]; omega
  rw [joined, List.length_cons]
  omega

set_option maxHeartbeats 400000 in
set_option maxRecDepth 100000 in
theorem JoinR_any (ao : Option Addr) (ss : List ByteArray) (c : Nat) (h1000 : ss.length ≤ 1000) (h60 : ∀ s ∈ ss, s.size ≤ 60) (w : World) (hz : StrsAt w ao ss) :
    Calls Tryz.prog 57 #[.slice ao ss.length c] w fun e w' => e = .returned (.string ⟨(joinR (ss.map (·.data.toList))).toArray⟩) ∧ w = w' := by
  have Hz := Lib.hid hz
  have H6 := Lib.hid h60
  clear hz h60
  go_enter Tryz.func57, Tryz.ntmps57
  go_wp2_with fail
  go_loop [3, 4] (fun s i => ∃ m : Nat, m ≤ ss.length ∧ i = .int .i64 m ∧ s = .string ⟨(joined ss m).toArray⟩) (fun _ i => ss.length - (intOf i).toNat)
  case atStart => exact ⟨0, Nat.zero_le _, rfl, rfl⟩
  case round =>
    obtain ⟨m, hm, rfl, rfl⟩ := hrel
    have hsl := joined_len H6.out h1000 m
    by_cases hlt : m < ss.length
    · rcases Hz.out with h0 | ⟨a, rfl, hc⟩
      · rw [h0] at hlt
        exact absurd hlt (Nat.not_lt_zero _)
      have hcm := hc m hlt
      have hx60 := H6.out _ (List.getElem_mem hlt)
      rw [show ss[m] = ss[m]?.getD ByteArray.empty by rw [List.getElem?_eq_getElem hlt]; rfl] at hx60
      clear hc
      by_cases h0 : 0 < m
      · have hstep := joined_next hlt h0
        obtain ⟨x, hx⟩ : ∃ x, x = ss[m]?.getD ByteArray.empty := ⟨_, rfl⟩
        rw [← hx] at hcm hstep hx60
        clear hx
        obtain ⟨X, rfl⟩ : ∃ X : List UInt8, x = ⟨X.toArray⟩ := ⟨x.data.toList, bytes_eq rfl⟩
        rw [mk_size] at hx60
        obtain ⟨A2, hA2⟩ : ∃ A2, A2 = joined ss m ++ gap := ⟨_, rfl⟩
        rw [← hA2] at hstep
        have hl2 : A2.length ≤ 1000000 := by rw [hA2, List.length_append]; simp; omega
        have hadd1 := add_named hA2 (by omega) (by decide) w
        have hadd2 := add_named (show joined ss (m + 1) = A2 ++ X from hstep) hl2 (by omega) w
        clear hstep hA2
        go_wp2_with fail
        go_round
        case rel => exact ⟨m + 1, by omega, by go_num, rfl⟩
        case measure => simp [intOf]; omega
      · obtain rfl : m = 0 := by omega
        have hstep := joined_first hlt
        obtain ⟨x, hx⟩ : ∃ x, x = ss[0]?.getD ByteArray.empty := ⟨_, rfl⟩
        rw [← hx] at hcm hstep hx60
        clear hx
        obtain ⟨X, rfl⟩ : ∃ X : List UInt8, x = ⟨X.toArray⟩ := ⟨x.data.toList, bytes_eq rfl⟩
        rw [mk_size] at hx60
        have hadd2 := add_named (show joined ss 1 = joined ss 0 ++ X from hstep) (by omega) (by omega) w
        rw [addr_zero] at hcm
        clear hstep
        go_wp2_with fail
        go_round
        case rel => exact ⟨1, by omega, by go_num, rfl⟩
        case measure => simp [intOf]; omega
    · obtain rfl : m = ss.length := by omega
      have hadd := add_named (show joinR (ss.map (·.data.toList)) = joined ss ss.length ++ [41] by rw [joined, List.take_length]; rfl) (by omega) (by decide) w
      go_wp2_with fail
      go_ret
      exact ⟨rfl, rfl⟩
end Go.Proofs.YtiofnjnaleglgaaGreatDoor

