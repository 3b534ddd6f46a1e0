/-
  Texts of mine in one file: KAtRQ, KAtRT, KAtRU.
-/
import Derived.Test.YtiofnjnaleglgaaGreatDoorG30
import Derived.Test.YtiofnjnaleglgaaGreatDoorG24
import Derived.Test.YtiofnjnaleglgaaGreatDoorG18
import Derived.Maps.AppendAt
import Derived.Test.YtiofnjnaleglgaaGreatDoorG29
/-
  The reference's 'Digits' of any number, 'hex' and 'Quote' by contracts.
-/
namespace Go.Proofs.YtiofnjnaleglgaaGreatDoor
open Go.RowKit

def u8v (b : UInt8) : Value := .int .u8 (b.toNat : Int)
theorem info_u8 : ∃ i, Tryz.prog.info? 5 = some i ∧ i.zero = some (.int .u8 0) ∧ i.size = 1 ∧ i.bytes = 1 := by
  have h1 : (Tryz.prog.info? 5).map (·.zero) = some (some (.int .u8 0)) := by kernel_rfl
  have h2 : (Tryz.prog.info? 5).map (·.size) = some 1 := by kernel_rfl
  have h3 : (Tryz.prog.info? 5).map (·.bytes) = some 1 := by kernel_rfl
  cases hi : Tryz.prog.info? 5 with
  | none => rw [hi] at h1; cases h1
  | some i =>
    rw [hi] at h1 h2 h3
    exact ⟨i, rfl, Option.some.inj h1, Option.some.inj h2, Option.some.inj h3⟩
theorem own_block {w : World} {B n sz : Nat} {e : TypeId} {v : Value} {xs : List Value} (h : w.ownsRow B e sz v n xs) {k : Nat} (hk : v.ownBlock = some k) : B ≤ k ∧ k < w.heap.size := h.lt k hk

/-- Some bytes are appended to a slice of the call's own. -/
theorem append_u8_run {w : World} {B : Nat} {ao : Option Addr} {c : Nat} {es : List UInt8} (h : w.ownsRow B 5 1 (.slice ao es.length c) es.length (es.map u8v)) (hB : B ≤ w.heap.size) (h3 : es.length ≤ 100000000) (xs : List UInt8) (hxs : xs.length ≤ 1000) (T : TypeId) {ty : TypeId} :
    ∃ ao' c' w', (Builtin.append_ #[56, 56] ty #[.slice ao es.length c, .slice (some ⟨w.heap.size, 0, none⟩) xs.length xs.length]).run Tryz.prog (w.alloc (.cells (xs.map u8v).toArray T)) = .ok (.slice ao' (es ++ xs).length c') w' ∧
      w'.ownsRow B 5 1 (.slice ao' (es ++ xs).length c') (es ++ xs).length ((es ++ xs).map u8v) ∧ Below B w w' := by
  obtain ⟨i, hi, hz, hsz, hby⟩ := info_u8
  have hown : (w.alloc (.cells (xs.map u8v).toArray T)).ownsRow B 5 1 (.slice ao es.length c) es.length (es.map u8v) := by
    refine ⟨h.1, ?_⟩
    rcases h.2 with h | ⟨g, c', cur, hv, hb, hg, hr⟩
    · exact .inl h
    · exact .inr ⟨g, c', cur, hv, hb, (Below.heap_alloc _ _ _ (lt_of_block hg)).trans hg, hr⟩
  have hcell : ∀ j u, (xs.map u8v)[j]? = some u → (w.alloc (.cells (xs.map u8v).toArray T)).cell? ((⟨w.heap.size, 0, none⟩ : Addr).add j) = some u := by
    intro j u hj
    rw [Addr.add_lit, cell_of_row _ _ _ _ _ _ (heap_alloc_new _ _), Nat.zero_add, List.getElem?_toArray]
    exact hj
  obtain ⟨v', w', hr, h1, h2, _, _⟩ := run_append_own_at (P := Tryz.prog) (w.alloc (.cells (xs.map u8v).toArray T)) B 56 ty 5 i (.int .u8 0) 1 1 Tryz.underlying56 hi hz hsz hby rfl (by decide)
    (.slice ao es.length c) es.length (es.map u8v) hown ⟨w.heap.size, 0, none⟩ xs.length xs.length (xs.map u8v) (by rw [List.length_map, Nat.mul_one]) hcell (fun u hu => by obtain ⟨b, _, rfl⟩ := List.mem_map.1 hu; rfl) (by simp only [maxLen]; omega) (by omega) (by simp; omega)
  obtain ⟨ao', c', rfl⟩ := own_slice h1
  refine ⟨ao', c', w', ?_, ?_, ?_⟩
  · rw [List.length_append]; exact hr
  · rw [List.length_append, List.map_append]
    exact h1
  · refine ⟨h2.os.trans rfl, h2.tape.trans rfl, h2.output.trans rfl, ?_, fun k hk => ?_⟩
    · have := h2.size; simp at this; omega
    · rw [h2.block k (by simp; omega) (fun e => by
        have := (own_block hown e.symm).1
        omega)]
      exact Below.heap_alloc _ _ _ (by omega)

theorem wp_append_u8 {ops : Array Oper} {rest : List Oper} {o : Oper} {a : Act} {Q : Exit → Act → World → Prop} {w : World} (hgd : o.guard = none) (s x : Operand)
    (ho : o.op = .call { callee := .builtin .append, args := #[s, x], argTypes := #[56, 56] }) {B : Nat} {ao : Option Addr} {c : Nat} {es : List UInt8} (xs : List UInt8) {A : Array Value}
    (h : w.ownsRow B 5 1 (.slice ao es.length c) es.length (es.map u8v)) (hB : B ≤ w.heap.size) (h3 : es.length ≤ 100000000) (hxs : xs.length ≤ 1000) (hA : A = (xs.map u8v).toArray)
    (hs : a.eval s = .slice ao es.length c) (hx : a.eval x = .slice (some ⟨w.heap.size, 0, none⟩) xs.length xs.length)
    (hk : ∀ ao' c' w', w'.ownsRow B 5 1 (.slice ao' (es ++ xs).length c') (es ++ xs).length ((es ++ xs).map u8v) → Below B w w' → wpList Tryz.prog ops Q rest (a.put o.dst (.slice ao' (es ++ xs).length c')) w') :
    wpList Tryz.prog ops Q (o :: rest) a (w.alloc (.cells A 5)) := by
  subst hA
  obtain ⟨ao', c', w', hr, h1, h2⟩ := append_u8_run (ty := o.type) h hB h3 xs hxs 5
  refine wpList_plain hgd fun K hK => ?_
  unfold Oper.wp execOp
  simp only [ho, resolve, invoke, builtin, Sem.run_bind, Sem.run_pure, Result.andThen_ok, List.map_toArray, List.map_cons, List.map_nil, hs, hx, hr]
  exact hK _ _ (hk ao' c' w' h1 h2)

theorem own_u8 {w : World} {B n : Nat} {ao : Option Addr} {c : Nat} {es : List UInt8} (h : w.ownsRow B 5 1 (.slice ao n c) n (es.map u8v)) (hn : n = es.length) :
    (convert 56 9 (.slice ao n c)).run Tryz.prog w = .ok (.string ⟨es.toArray⟩) w := by
  subst hn
  rcases h.2 with ⟨hv, h0⟩ | ⟨g, c', cur, hv, _, hg, _, _, _, hcur⟩
  · obtain ⟨rfl, _, rfl⟩ : ao = none ∧ es.length = 0 ∧ c = 0 := by simpa using hv
    have : es = [] := List.eq_nil_of_length_eq_zero h0
    subst this
    show (convert 56 9 (.slice none 0 0)).run Tryz.prog w = _
    rw [run_convert_bytes_string w _ _ _ none 0 0 Tryz.underlying56 Tryz.underlying5 Tryz.underlying9]
    rfl
  · cases hv
    refine run_convert_bytes_back w _ _ 5 ⟨g, 0, none⟩ c es Tryz.underlying56 Tryz.underlying5 Tryz.underlying9 fun j hj => ?_
    have h1 : (cur.toList.take (es.length * 1))[j]? = some (u8v es[j]) := by
      rw [hcur, List.getElem?_map, List.getElem?_eq_getElem hj]; rfl
    rw [List.getElem?_take_of_lt (by omega), Array.getElem?_toList] at h1
    rw [Addr.add_lit, cell_of_row _ _ _ _ _ _ hg, Nat.zero_add]
    exact h1

theorem hexD_val : ∀ n : Nat, n < 16 → ((hexD n).toNat : Int) = if (n : Int) < 10 then 48 + (n : Int) else 97 + (n : Int) - 10 := by decide +kernel
set_option maxHeartbeats 400000 in
theorem RHex_any (n : Nat) (z : Int) (hz : z = n) (hn : n < 16) (w : World) : Calls Tryz.prog 80 #[.int .u8 z] w fun e w' => e = .returned (u8v (hexD n)) ∧ w = w' := by
  subst hz
  have hv := hexD_val n hn
  by_cases h : n < 10
  · have hi : (n : Int) < 10 := by omega
    rw [if_pos hi] at hv
    have HV := Lib.hid (congrArg (fun z => Ending.returned (Value.int .u8 z)) hv)
    clear hv
    go_enter Tryz.func80, Tryz.ntmps80
    go_wp2_with fail
    go_ret
    exact ⟨HV.out.symm, rfl⟩
  · have hi : ¬ (n : Int) < 10 := by omega
    rw [if_neg hi] at hv
    have HV := Lib.hid (congrArg (fun z => Ending.returned (Value.int .u8 z)) hv)
    clear hv
    go_enter Tryz.func80, Tryz.ntmps80
    go_wp2_with fail
    go_ret
    exact ⟨HV.out.symm, rfl⟩

set_option maxRecDepth 100000 in
set_option maxHeartbeats 400000 in
theorem RDigits_any (z : Int) (hz : i64 z) (w : World) :
    Calls Tryz.prog 55 #[.int .i64 z] w fun e w' => e = .returned (.string ⟨(Lib.itoa z).toArray⟩) ∧ w = w' := by
  by_cases h : z < 0
  · obtain ⟨n, rfl⟩ : ∃ n : Nat, z = -(n : Int) := ⟨z.natAbs, by omega⟩
    have h1 := hz.1
    have hn : n < 2 ^ 64 := by omega
    have hw : IntKind.u64.wrap (-IntKind.u64.wrap (-(n : Int))) = n := by
      rw [IntKind.wrap_u64, IntKind.wrap_u64]
      omega
    have HI := Lib.hid (congrArg (fun l : List UInt8 => Ending.returned (Value.string ⟨l.toArray⟩)) (show Lib.itoa (-(n : Int)) = 45 :: Lib.decDigits n by unfold Lib.itoa; rw [if_pos h, Int.natAbs_neg, Int.natAbs_natCast]))
    have HL := decDigits_short (u := n) hn
    have hadd := add_named (show 45 :: Lib.decDigits n = [45] ++ Lib.decDigits n from rfl) (by decide) (by omega) w
    have HNN := Lib.hid hn
    clear HL hz h1 hn
    go_enter Tryz.func55, Tryz.ntmps55
    go_wp2_with fail
    refine (natural_any n HNN.out _).mono ?_
    rintro e w1 ⟨rfl, rfl⟩
    go_wp2_with fail
    go_ret
    exact ⟨HI.out.symm, rfl⟩
  · obtain ⟨n, rfl⟩ : ∃ n : Nat, z = n := ⟨z.toNat, by omega⟩
    have h2 := hz.2
    have e : Lib.itoa (n : Int) = Lib.decDigits n := by unfold Lib.itoa; rw [if_neg h]; rfl
    rw [e]
    exact Digits_any n (by omega) w
end Go.Proofs.YtiofnjnaleglgaaGreatDoor

/-
  The reference's 'Quote' by its contract.
-/
namespace Go.Proofs.YtiofnjnaleglgaaGreatDoor
open Go.RowKit

structure QuoS (w : World) (L : List UInt8) (ao : Option Addr) (c : Nat) (es : List UInt8) (W : World) : Prop where
  own : W.ownsRow w.heap.size 5 1 (.slice ao es.length c) es.length (es.map u8v)
  told : es = L
  below : Below w.heap.size w W
theorem QuoS.len {w : World} {t : ByteArray} {m : Nat} {ao : Option Addr} {c : Nat} {es : List UInt8} {W : World} (h : QuoS w (34 :: (t.data.toList.take m).flatMap quoteB) ao c es W) (ht : t.size ≤ 2000000) : es.length ≤ 10000000 := by
  rw [h.told, List.length_cons]
  have := off_le t.data.toList m
  rw [← size_eq] at this
  omega
theorem QuoS.size {w : World} {L : List UInt8} {ao : Option Addr} {c : Nat} {es : List UInt8} {W : World} (h : QuoS w L ao c es W) : w.heap.size ≤ W.heap.size := h.below.size
theorem QuoS.more {w : World} {L L' xs : List UInt8} {ao ao' : Option Addr} {c c' : Nat} {es : List UInt8} {W W' : World} (h : QuoS w L ao c es W) (hL : L' = L ++ xs) (ho : W'.ownsRow w.heap.size 5 1 (.slice ao' (es ++ xs).length c') (es ++ xs).length ((es ++ xs).map u8v)) (hb : Below w.heap.size W W') : QuoS w L' ao' c' (es ++ xs) W' :=
  ⟨ho, by rw [hL, h.told], h.below.trans hb⟩
theorem quote34 {c : UInt8} (h : c.toNat = 34) : quoteB c = [92, 34] := by
  have : c = 34 := UInt8.toNat_inj.1 h
  subst this; rfl
theorem quote92 {c : UInt8} (h : c.toNat = 92) : quoteB c = [92, 92] := by
  have : c = 92 := UInt8.toNat_inj.1 h
  subst this; rfl

set_option maxHeartbeats 4000000 in
set_option maxRecDepth 100000 in
theorem RQuote_any (t : ByteArray) (ht : t.size ≤ 2000000) (w : World) :
    Calls Tryz.prog 56 #[.string t] w fun e w' => e = .returned (.string ⟨(quoteL t.data.toList).toArray⟩) ∧ Below w.heap.size w w' := by
  have O0 := Lib.hid (World.ownsRow_nil w w.heap.size 5 1)
  have Z0 := Lib.hid (Nat.le_refl w.heap.size)
  have N0 := Lib.hid (show ([] : List UInt8).length ≤ 100000000 by decide)
  go_enter Tryz.func56, Tryz.ntmps56
  go_wp2_with (at_builtin; refine wp_append_u8 (es := []) rfl _ _ rfl [34] O0.out Z0.out N0.out (by decide) rfl rfl rfl ?_; intro ao1 c1 w1 hown hbel; have OW := Lib.hid hown; have BE := Lib.hid hbel; clear hown hbel)
  have Q1 : Hid (QuoS w (34 :: (t.data.toList.take 0).flatMap quoteB) ao1 c1 [34] w1) := ⟨OW.out, rfl, BE.out⟩
  clear OW BE O0 Z0 N0
  go_loopw [3, 4] (fun o i wr => ∃ (m : Nat) (xo : Option Addr) (xc : Nat) (es : List UInt8), m ≤ t.size ∧ i = .int .i64 m ∧ o = .slice xo es.length xc ∧ Hid (QuoS w (34 :: (t.data.toList.take m).flatMap quoteB) xo xc es wr)) (fun _ i _ => t.size - (intOf i).toNat)
  case atStart => exact ⟨0, ao1, c1, [34], Nat.zero_le _, rfl, rfl, Q1⟩
  case round =>
    obtain ⟨m, xo, xc, es, hm, rfl, rfl, HQ⟩ := hrel
    have HO := Lib.hid HQ.out.own
    have HZ := Lib.hid HQ.out.size
    have HN := Lib.hid (show es.length ≤ 100000000 by have := HQ.out.len ht; omega)
    by_cases hlt : m < t.size
    · have hmi : (m : Int) < (t.size : Int) := by omega
      have hge : t.data.toList[m]? = some (t[m]'hlt) := by rw [List.getElem?_eq_getElem (by rw [← size_eq]; exact hlt)]; rfl
      have hix : ∀ w, (Instr.index 9 (.string t) (.int .i64 m)).run Tryz.prog w = .ok (.int .u8 ((t[m]'hlt).toNat : Int)) w := fun w => by
        rw [run_index_string w _ _ _ _ Tryz.underlying9]
        simp [hmi]
      generalize t[m]'hlt = c at hix hge
      have HS := Lib.hid (take_flat hge)
      clear hge
      have hc256 : c.toNat < 256 := c.toNat_lt

      by_cases h34 : c.toNat = 34
      · have k1 : (c.toNat : Int) = 34 := by omega
        have HX := Lib.hid (show quoteB c = [92, 34] from quote34 h34)
        go_wp2_with (at_builtin; refine wp_append_u8 rfl _ _ rfl [92, 34] HO.out HZ.out HN.out (Nat.le_of_ble_eq_true rfl) rfl rfl rfl ?_; intro ao2 c2 w2 hown hbel; have HO2 := Lib.hid hown; have HB2 := Lib.hid hbel; clear hown hbel)
        have Q2 : Hid (QuoS w (34 :: (t.data.toList.take (m + 1)).flatMap quoteB) ao2 c2 (es ++ [92, 34]) w2) := HQ.out.more (by rw [HS.out, HX.out]; rfl) HO2.out HB2.out
        go_roundw
        case rel => exact ⟨m + 1, ao2, c2, es ++ [92, 34], by omega, by go_num, by rw [List.length_append]; rfl, Q2⟩
        case measure => simp only [intOf]; omega
      have k1 : ¬ (c.toNat : Int) = 34 := by omega
      by_cases h92 : c.toNat = 92
      · have k2 : (c.toNat : Int) = 92 := by omega
        have HX := Lib.hid (show quoteB c = [92, 92] from quote92 h92)
        go_wp2_with (at_builtin; refine wp_append_u8 rfl _ _ rfl [92, 92] HO.out HZ.out HN.out (Nat.le_of_ble_eq_true rfl) rfl rfl rfl ?_; intro ao2 c2 w2 hown hbel; have HO2 := Lib.hid hown; have HB2 := Lib.hid hbel; clear hown hbel)
        have Q2 : Hid (QuoS w (34 :: (t.data.toList.take (m + 1)).flatMap quoteB) ao2 c2 (es ++ [92, 92]) w2) := HQ.out.more (by rw [HS.out, HX.out]; rfl) HO2.out HB2.out
        go_roundw
        case rel => exact ⟨m + 1, ao2, c2, es ++ [92, 92], by omega, by go_num, by rw [List.length_append]; rfl, Q2⟩
        case measure => simp only [intOf]; omega
      have k2 : ¬ (c.toNat : Int) = 92 := by omega
      by_cases h10 : c.toNat = 10
      · have k3 : (c.toNat : Int) = 10 := by omega
        have HX := Lib.hid (show quoteB c = [92, 110] from by unfold quoteB; rw [if_neg h34, if_neg h92, if_pos h10])
        go_wp2_with (at_builtin; refine wp_append_u8 rfl _ _ rfl [92, 110] HO.out HZ.out HN.out (Nat.le_of_ble_eq_true rfl) rfl rfl rfl ?_; intro ao2 c2 w2 hown hbel; have HO2 := Lib.hid hown; have HB2 := Lib.hid hbel; clear hown hbel)
        have Q2 : Hid (QuoS w (34 :: (t.data.toList.take (m + 1)).flatMap quoteB) ao2 c2 (es ++ [92, 110]) w2) := HQ.out.more (by rw [HS.out, HX.out]; rfl) HO2.out HB2.out
        go_roundw
        case rel => exact ⟨m + 1, ao2, c2, es ++ [92, 110], by omega, by go_num, by rw [List.length_append]; rfl, Q2⟩
        case measure => simp only [intOf]; omega
      have k3 : ¬ (c.toNat : Int) = 10 := by omega
      by_cases hhex : c.toNat < 32 ∨ 126 < c.toNat
      · have HX := Lib.hid (show quoteB c = [92, 120, hexD (c.toNat / 16), hexD (c.toNat % 16)] by unfold quoteB; rw [if_neg h34, if_neg h92, if_neg h10, if_pos hhex])
        by_cases h32 : c.toNat < 32
        · have k4 : (c.toNat : Int) < 32 := by omega
          go_wp2_with fail
          refine (RHex_any (c.toNat / 16) _ (by omega) (by omega) _).mono ?_
          rintro e w9 ⟨rfl, rfl⟩
          go_wp2_with fail
          refine (RHex_any (c.toNat % 16) _ (by omega) (by omega) _).mono ?_
          rintro e w9 ⟨rfl, rfl⟩
          unfold u8v
          go_wp2_with (at_builtin; refine wp_append_u8 rfl _ _ rfl [92, 120, hexD (c.toNat / 16), hexD (c.toNat % 16)] HO.out HZ.out HN.out (Nat.le_of_ble_eq_true rfl) rfl rfl rfl ?_; intro ao2 c2 w2 hown hbel; have HO2 := Lib.hid hown; have HB2 := Lib.hid hbel; clear hown hbel)
          have Q2 : Hid (QuoS w (34 :: (t.data.toList.take (m + 1)).flatMap quoteB) ao2 c2 (es ++ [92, 120, hexD (c.toNat / 16), hexD (c.toNat % 16)]) w2) := HQ.out.more (by rw [HS.out, HX.out]; rfl) HO2.out HB2.out
          go_roundw
          case rel => exact ⟨m + 1, ao2, c2, es ++ [92, 120, hexD (c.toNat / 16), hexD (c.toNat % 16)], by omega, by go_num, by rw [List.length_append]; rfl, Q2⟩
          case measure => simp only [intOf]; omega
        · have k4 : ¬ (c.toNat : Int) < 32 := by omega
          have k5 : 126 < (c.toNat : Int) := by omega
          go_wp2_with fail
          refine (RHex_any (c.toNat / 16) _ (by omega) (by omega) _).mono ?_
          rintro e w9 ⟨rfl, rfl⟩
          go_wp2_with fail
          refine (RHex_any (c.toNat % 16) _ (by omega) (by omega) _).mono ?_
          rintro e w9 ⟨rfl, rfl⟩
          unfold u8v
          go_wp2_with (at_builtin; refine wp_append_u8 rfl _ _ rfl [92, 120, hexD (c.toNat / 16), hexD (c.toNat % 16)] HO.out HZ.out HN.out (Nat.le_of_ble_eq_true rfl) rfl rfl rfl ?_; intro ao2 c2 w2 hown hbel; have HO2 := Lib.hid hown; have HB2 := Lib.hid hbel; clear hown hbel)
          have Q2 : Hid (QuoS w (34 :: (t.data.toList.take (m + 1)).flatMap quoteB) ao2 c2 (es ++ [92, 120, hexD (c.toNat / 16), hexD (c.toNat % 16)]) w2) := HQ.out.more (by rw [HS.out, HX.out]; rfl) HO2.out HB2.out
          go_roundw
          case rel => exact ⟨m + 1, ao2, c2, es ++ [92, 120, hexD (c.toNat / 16), hexD (c.toNat % 16)], by omega, by go_num, by rw [List.length_append]; rfl, Q2⟩
          case measure => simp only [intOf]; omega
      have k4 : ¬ (c.toNat : Int) < 32 := by omega
      have k5 : ¬ 126 < (c.toNat : Int) := by omega
      have HX := Lib.hid (show quoteB c = [c] from by unfold quoteB; rw [if_neg h34, if_neg h92, if_neg h10, if_neg hhex])
      go_wp2_with (at_builtin; refine wp_append_u8 rfl _ _ rfl [c] HO.out HZ.out HN.out (Nat.le_of_ble_eq_true rfl) rfl rfl rfl ?_; intro ao2 c2 w2 hown hbel; have HO2 := Lib.hid hown; have HB2 := Lib.hid hbel; clear hown hbel)
      have Q2 : Hid (QuoS w (34 :: (t.data.toList.take (m + 1)).flatMap quoteB) ao2 c2 (es ++ [c]) w2) := HQ.out.more (by rw [HS.out, HX.out]; rfl) HO2.out HB2.out
      go_roundw
      case rel => exact ⟨m + 1, ao2, c2, es ++ [c], by omega, by go_num, by rw [List.length_append]; rfl, Q2⟩
      case measure => simp only [intOf]; omega
    · obtain rfl : m = t.size := by omega
      have HT := Lib.hid (congrArg (fun l : List UInt8 => Ending.returned (Value.string ⟨l.toArray⟩)) (show es ++ [34] = quoteL t.data.toList by rw [HQ.out.told, size_eq, List.take_length]; rfl))
      go_wp2_with (at_builtin; refine wp_append_u8 rfl _ _ rfl [34] HO.out HZ.out HN.out (Nat.le_of_ble_eq_true rfl) rfl rfl rfl ?_; intro ao2 c2 w2 hown hbel; have hcv := own_u8 hown rfl; simp only [List.length_append, List.length_cons, List.length_nil, Nat.zero_add] at hcv; have HB2 := Lib.hid hbel; clear hown hbel)
      go_ret
      exact ⟨HT.out, HQ.out.below.trans HB2.out⟩
end Go.Proofs.YtiofnjnaleglgaaGreatDoor

/-
  The reference's 'Value' and 'Print' of right attributes by contracts.
-/
namespace Go.Proofs.YtiofnjnaleglgaaGreatDoor
open Go.RowKit

/-- What has been written before the m-th number. -/
def preI (zs : List Int) (m : Nat) : List UInt8 := 91 :: Lib.join ((zs.take m).map Lib.itoa) gap
theorem take_it {zs : List Int} {m : Nat} (hm : m < zs.length) : (zs.take (m + 1)).map Lib.itoa = (zs.take m).map Lib.itoa ++ [Lib.itoa (zs[m]?.getD 0)] := by
  rw [List.take_add_one, List.getElem?_eq_getElem hm, List.map_append]
  rfl
theorem preI_first {zs : List Int} (h : 0 < zs.length) : preI zs 1 = preI zs 0 ++ Lib.itoa (zs[0]?.getD 0) := by
  unfold preI
  rw [take_it h]
  simp [Lib.join_one, Lib.join_nil]
theorem preI_next {zs : List Int} {m : Nat} (h : m < zs.length) (h0 : 0 < m) : preI zs (m + 1) = (preI zs m ++ gap) ++ Lib.itoa (zs[m]?.getD 0) := by
  unfold preI
  rw [take_it h, join_snoc _ _ (by
    intro e
    have := congrArg List.length e
    simp only [List.length_map, List.length_take, List.length_nil] at this
    omega)]
  simp
theorem preI_len {zs : List Int} (hz : ∀ z ∈ zs, i64 z) (h100 : zs.length ≤ 100) (m : Nat) : (preI zs m).length ≤ 100000 := by
  have := join_lens 30 ((zs.take m).map Lib.itoa) (fun p hp => by
    obtain ⟨z, hz1, rfl⟩ := List.mem_map.1 hp
    have h1 := hz z (List.mem_of_mem_take hz1)
    have := Lib.itoa_length_le z h1.1 h1.2
    omega)
  rw [List.length_map, List.length_take] at this
  have h2 : min m zs.length ≤ 100 := by omega
  have h3 := Nat.mul_le_mul_left (30 + 2) h2
  simp only [preI, List.length_cons]
  omega
theorem ret_bytes (t : ByteArray) : Ending.returned (Value.string t) = Ending.returned (Value.string ⟨t.data.toList.toArray⟩) := congrArg (fun s => Ending.returned (Value.string s)) (bytes_eq rfl)
theorem itoa_len20 {z : Int} (h : i64 z) : (Lib.itoa z).length ≤ 21 := Lib.itoa_length_le z h.1 h.2

set_option maxHeartbeats 4000000 in
set_option maxRecDepth 100000 in
theorem RValue_any (a : At) (v : Value) (ai : Option Addr) (ci : Nat) (ao : Option Addr) (ct : Nat) (hr : rightB a = true) (w : World) (ha : AttAt w a v ai ci ao ct) :
    Calls Tryz.prog 32 #[v] w fun e w' => e = .returned (.string ⟨(valueL a).toArray⟩) ∧ Below w.heap.size w w' := by
  have hv := ha.val
  have HI := Lib.hid ha.ints
  have HT := Lib.hid ha.texts
  have HW := Lib.hid ha.wf
  clear ha
  subst hv
  have B0 := Lib.hid (alloc_below w (.cells #[.string a.name, .int .i64 a.kind, .int .i64 a.num, .string a.text, .slice ai a.ints.length ci, .slice ao a.texts.length ct] 29))
  have T0 := Lib.hid (heap_alloc_new w (.cells #[.string a.name, .int .i64 a.kind, .int .i64 a.num, .string a.text, .slice ai a.ints.length ci, .slice ao a.texts.length ct] 29))
  obtain ⟨_, ⟨n, z, rfl⟩ | ⟨n, t, rfl, ht⟩ | ⟨n, t, rfl, ht⟩ | ⟨n, t, rfl, ht⟩ | ⟨n, zs, rfl, hz⟩ | ⟨n, ss, rfl, hs, hss⟩⟩ := right_cases hr
  · have hz := HW.out.num
    dsimp only at B0 T0 HI HT ⊢
    go_enter Tryz.func32, Tryz.ntmps32
    go_upto_region 1 with fail
    generalize w.alloc (.cells #[.string n, .int .i64 0, .int .i64 z, .string ⟨#[]⟩, .slice ai 0 ci, .slice ao 0 ct] 29) = w0 at B0 T0 ⊢
    obtain ⟨D, hD⟩ : ∃ D, D = w.heap.size := ⟨_, rfl⟩
    rw [← hD] at T0 ⊢
    clear hD
    obtain ⟨y0, y1, y2, y3, y4, y5, yf⟩ := cells6 T0.out
    go_wp2_with fail
    refine (RDigits_any z hz _).mono ?_
    rintro e w1 ⟨rfl, rfl⟩
    go_wp2_with fail
    go_ret
    exact ⟨rfl, B0.out⟩
  · have ht5 : t.size ≤ 2000000 := by omega
    dsimp only at B0 T0 HI HT ⊢
    go_enter Tryz.func32, Tryz.ntmps32
    go_upto_region 1 with fail
    generalize w.alloc (.cells #[.string n, .int .i64 1, .int .i64 0, .string t, .slice ai 0 ci, .slice ao 0 ct] 29) = w0 at B0 T0 ⊢
    obtain ⟨D, hD⟩ : ∃ D, D = w.heap.size := ⟨_, rfl⟩
    rw [← hD] at T0 ⊢
    clear hD
    obtain ⟨y0, y1, y2, y3, y4, y5, yf⟩ := cells6 T0.out
    go_wp2_with fail
    refine (RQuote_any t ht5 _).mono ?_
    rintro e w1 ⟨rfl, hb⟩
    have HB := Lib.hid hb
    clear hb
    go_wp2_with fail
    go_ret
    exact ⟨rfl, B0.out.trans (HB.out.mono B0.out.size)⟩
  · obtain ⟨T, rfl⟩ : ∃ T : List UInt8, t = ⟨T.toArray⟩ := ⟨t.data.toList, bytes_eq rfl⟩
    have hnl : T.length ≤ 60 := name_size ht
    have hadd := fun w => add_named (show (64 :: T) = [64] ++ T from rfl) (by decide) (by omega) w
    dsimp only at B0 T0 HI HT ⊢
    go_enter Tryz.func32, Tryz.ntmps32
    go_upto_region 1 with fail
    generalize w.alloc (.cells #[.string n, .int .i64 2, .int .i64 0, .string ⟨T.toArray⟩, .slice ai 0 ci, .slice ao 0 ct] 29) = w0 at B0 T0 ⊢
    obtain ⟨D, hD⟩ : ∃ D, D = w.heap.size := ⟨_, rfl⟩
    rw [← hD] at T0 ⊢
    clear hD
    obtain ⟨y0, y1, y2, y3, y4, y5, yf⟩ := cells6 T0.out
    go_wp2_with fail
    go_ret
    exact ⟨rfl, B0.out⟩
  · dsimp only at B0 T0 HI HT ⊢
    go_enter Tryz.func32, Tryz.ntmps32
    go_upto_region 1 with fail
    generalize w.alloc (.cells #[.string n, .int .i64 3, .int .i64 0, .string t, .slice ai 0 ci, .slice ao 0 ct] 29) = w0 at B0 T0 ⊢
    obtain ⟨D, hD⟩ : ∃ D, D = w.heap.size := ⟨_, rfl⟩
    rw [← hD] at T0 ⊢
    clear hD
    obtain ⟨y0, y1, y2, y3, y4, y5, yf⟩ := cells6 T0.out
    go_wp2_with fail
    go_ret
    exact ⟨ret_bytes t, B0.out⟩
  · have HZ := Lib.hid HW.out.ints
    dsimp only at B0 T0 HI HT ⊢
    go_enter Tryz.func32, Tryz.ntmps32
    go_upto_region 1 with fail
    generalize w.alloc (.cells #[.string n, .int .i64 4, .int .i64 0, .string ⟨#[]⟩, .slice ai zs.length ci, .slice ao 0 ct] 29) = w0 at B0 T0 ⊢
    obtain ⟨D, hD⟩ : ∃ D, D = w.heap.size := ⟨_, rfl⟩
    rw [← hD] at T0 ⊢
    clear hD
    obtain ⟨y0, y1, y2, y3, y4, y5, yf⟩ := cells6 T0.out
    have I0 := Lib.hid (HI.out.below B0.out)
    have hzi : (zs.length : Int) ≤ 100 := by omega
    go_wp2_with fail
    go_loopw [3, 4] (fun s i wr => ∃ m : Nat, m ≤ zs.length ∧ i = .int .i64 m ∧ s = .string ⟨(preI zs m).toArray⟩ ∧ wr = w0) (fun _ i _ => zs.length - (intOf i).toNat)
    case atStart => exact ⟨0, Nat.zero_le _, rfl, rfl, rfl⟩
    case round =>
      obtain ⟨m, hm, rfl, rfl, rfl⟩ := hrel
      have hsl := preI_len HZ.out hz m
      by_cases hlt : m < zs.length
      · rcases I0.out with h0 | ⟨a, rfl, hc⟩
        · rw [h0] at hlt
          exact absurd hlt (Nat.not_lt_zero _)
        have hcm := hc m hlt
        have hx60 : i64 (zs[m]?.getD 0) := by rw [List.getElem?_eq_getElem hlt]; exact HZ.out _ (List.getElem_mem hlt)
        clear hc
        by_cases h0 : 0 < m
        · have hstep := preI_next hlt h0
          obtain ⟨x, hx⟩ : ∃ x, x = zs[m]?.getD 0 := ⟨_, rfl⟩
          rw [← hx] at hcm hstep hx60
          clear hx
          have HX := Lib.hid (itoa_len20 hx60)
          obtain ⟨A2, hA2⟩ : ∃ A2, A2 = preI zs m ++ gap := ⟨_, rfl⟩
          rw [← hA2] at hstep
          have hl2 : A2.length ≤ 1000000 := by rw [hA2, List.length_append]; simp; omega
          have hadd1 := fun w => add_named hA2 (by omega) (by decide) w
          have hadd2 := fun w => add_named (show preI zs (m + 1) = A2 ++ Lib.itoa x from hstep) hl2 (by have := HX.out; omega) w
          have HX6 := Lib.hid hx60
          clear hstep hA2 hx60
          go_wp2_with fail
          refine (RDigits_any x HX6.out _).mono ?_
          rintro e w1 ⟨rfl, rfl⟩
          go_wp2_with fail
          go_roundw
          case rel => exact ⟨m + 1, by omega, by go_num, rfl, trivial⟩
          case measure => simp only [intOf]; omega
        · obtain rfl : m = 0 := by omega
          have hstep := preI_first hlt
          obtain ⟨x, hx⟩ : ∃ x, x = zs[0]?.getD 0 := ⟨_, rfl⟩
          rw [← hx] at hcm hstep hx60
          clear hx
          have HX := Lib.hid (itoa_len20 hx60)
          have hadd2 := fun w => add_named (show preI zs 1 = preI zs 0 ++ Lib.itoa x from hstep) (by omega) (by have := HX.out; omega) w
          rw [addr_zero] at hcm
          have HX6 := Lib.hid hx60
          clear hstep hx60
          go_wp2_with fail
          refine (RDigits_any x HX6.out _).mono ?_
          rintro e w1 ⟨rfl, rfl⟩
          go_wp2_with fail
          go_roundw
          case rel => exact ⟨1, by omega, by go_num, rfl, trivial⟩
          case measure => simp only [intOf]; omega
      · obtain rfl : m = zs.length := by omega
        have hadd := fun w => add_named (show intsL zs = preI zs zs.length ++ [93] by rw [preI, List.take_length]; rfl) (by omega) (by decide) w
        go_wp2_with fail
        go_ret
        exact ⟨rfl, B0.out⟩
  · have h60 : ∀ s ∈ ss, s.size ≤ 60 := all_len hss
    dsimp only at B0 T0 HI HT ⊢
    go_enter Tryz.func32, Tryz.ntmps32
    go_upto_region 1 with fail
    generalize w.alloc (.cells #[.string n, .int .i64 5, .int .i64 0, .string ⟨#[]⟩, .slice ai 0 ci, .slice ao ss.length ct] 29) = w0 at B0 T0 ⊢
    obtain ⟨D, hD⟩ : ∃ D, D = w.heap.size := ⟨_, rfl⟩
    rw [← hD] at T0 ⊢
    clear hD
    obtain ⟨y0, y1, y2, y3, y4, y5, yf⟩ := cells6 T0.out
    have S0 := Lib.hid (HT.out.below B0.out)
    go_wp2_with fail
    refine (JoinR_any ao ss ct (by omega) h60 _ S0.out).mono ?_
    rintro e w1 ⟨rfl, rfl⟩
    go_wp2_with fail
    go_ret
    exact ⟨rfl, B0.out⟩
end Go.Proofs.YtiofnjnaleglgaaGreatDoor
