/-
  The reference's 'Digits' of any number, 'hex' and 'Quote' by contracts.
-/
import Derived.Test.YtiofnjnaleglgaaGreatDoorG30
import Derived.Test.YtiofnjnaleglgaaGreatDoorG24
import Derived.Test.YtiofnjnaleglgaaGreatDoorG18
import Derived.Maps.AppendAt
namespace Go.Proofs.YtiofnjnaleglgaaGreatDoor
open Go.RowKit

def u8v (b : UInt8) : Value := .int .u8 (b.toNat : Int)
theorem info_u8 : ∃ i, Tryz.prog.info? 5 = some i ∧ i.zero = some (.int .u8 0) ∧ i.size = 1 ∧ i.bytes = 1 := by
  have h1 : (Tryz.prog.info? 5).map (·.zero) = some (some (.int .u8 0)) := by kernel_rfl
  have h2 : (Tryz.prog.info? 5).map (·.size) = some 1 := by kernel_rfl
  have h3 : (Tryz.prog.info? 5).map (·.bytes) = some 1 := by kernel_rfl
  cases hi : Tryz.prog.info? 5 with
  | none => rw [hi] at h1; cases h1
  | some i =>
    rw [hi] at h1 h2 h3
    exact ⟨i, rfl, Option.some.inj h1, Option.some.inj h2, Option.some.inj h3⟩
theorem own_block {w : World} {B n sz : Nat} {e : TypeId} {v : Value} {xs : List Value} (h : w.ownsRow B e sz v n xs) {k : Nat} (hk : v.ownBlock = some k) : B ≤ k ∧ k < w.heap.size := h.lt k hk

/-- Some bytes are appended to a slice of the call's own. -/
theorem append_u8_run {w : World} {B : Nat} {ao : Option Addr} {c : Nat} {es : List UInt8} (h : w.ownsRow B 5 1 (.slice ao es.length c) es.length (es.map u8v)) (hB : B ≤ w.heap.size) (h3 : es.length ≤ 2000000) (xs : List UInt8) (hxs : xs.length ≤ 1000) (T : TypeId) {ty : TypeId} :
    ∃ ao' c' w', (Builtin.append_ #[56, 56] ty #[.slice ao es.length c, .slice (some ⟨w.heap.size, 0, none⟩) xs.length xs.length]).run Tryz.prog (w.alloc (.cells (xs.map u8v).toArray T)) = .ok (.slice ao' (es ++ xs).length c') w' ∧
      w'.ownsRow B 5 1 (.slice ao' (es ++ xs).length c') (es ++ xs).length ((es ++ xs).map u8v) ∧ Below B w w' := by
  obtain ⟨i, hi, hz, hsz, hby⟩ := info_u8
  have hown : (w.alloc (.cells (xs.map u8v).toArray T)).ownsRow B 5 1 (.slice ao es.length c) es.length (es.map u8v) := by
    refine ⟨h.1, ?_⟩
    rcases h.2 with h | ⟨g, c', cur, hv, hb, hg, hr⟩
    · exact .inl h
    · exact .inr ⟨g, c', cur, hv, hb, (Below.heap_alloc _ _ _ (lt_of_block hg)).trans hg, hr⟩
  have hcell : ∀ j u, (xs.map u8v)[j]? = some u → (w.alloc (.cells (xs.map u8v).toArray T)).cell? ((⟨w.heap.size, 0, none⟩ : Addr).add j) = some u := by
    intro j u hj
    rw [Addr.add_lit, cell_of_row _ _ _ _ _ _ (heap_alloc_new _ _), Nat.zero_add, List.getElem?_toArray]
    exact hj
  obtain ⟨v', w', hr, h1, h2, _, _⟩ := run_append_own_at (P := Tryz.prog) (w.alloc (.cells (xs.map u8v).toArray T)) B 56 ty 5 i (.int .u8 0) 1 1 Tryz.underlying56 hi hz hsz hby rfl (by decide)
    (.slice ao es.length c) es.length (es.map u8v) hown ⟨w.heap.size, 0, none⟩ xs.length xs.length (xs.map u8v) (by rw [List.length_map, Nat.mul_one]) hcell (fun u hu => by obtain ⟨b, _, rfl⟩ := List.mem_map.1 hu; rfl) (by simp only [maxLen]; omega) (by omega) (by simp; omega)
  obtain ⟨ao', c', rfl⟩ := own_slice h1
  refine ⟨ao', c', w', ?_, ?_, ?_⟩
  · rw [List.length_append]; exact hr
  · rw [List.length_append, List.map_append]
    exact h1
  · refine ⟨h2.os.trans rfl, h2.tape.trans rfl, h2.output.trans rfl, ?_, fun k hk => ?_⟩
    · have := h2.size; simp at this; omega
    · rw [h2.block k (by simp; omega) (fun e => by
        have := (own_block hown e.symm).1
        omega)]
      exact Below.heap_alloc _ _ _ (by omega)

theorem wp_append_u8 {ops : Array Oper} {rest : List Oper} {o : Oper} {a : Act} {Q : Exit → Act → World → Prop} {w : World} (hgd : o.guard = none) (s x : Operand)
    (ho : o.op = .call { callee := .builtin .append, args := #[s, x], argTypes := #[56, 56] }) {B : Nat} {ao : Option Addr} {c : Nat} {es : List UInt8} (xs : List UInt8) {A : Array Value}
    (h : w.ownsRow B 5 1 (.slice ao es.length c) es.length (es.map u8v)) (hB : B ≤ w.heap.size) (h3 : es.length ≤ 2000000) (hxs : xs.length ≤ 1000) (hA : A = (xs.map u8v).toArray)
    (hs : a.eval s = .slice ao es.length c) (hx : a.eval x = .slice (some ⟨w.heap.size, 0, none⟩) xs.length xs.length)
    (hk : ∀ ao' c' w', w'.ownsRow B 5 1 (.slice ao' (es ++ xs).length c') (es ++ xs).length ((es ++ xs).map u8v) → Below B w w' → wpList Tryz.prog ops Q rest (a.put o.dst (.slice ao' (es ++ xs).length c')) w') :
    wpList Tryz.prog ops Q (o :: rest) a (w.alloc (.cells A 5)) := by
  subst hA
  obtain ⟨ao', c', w', hr, h1, h2⟩ := append_u8_run (ty := o.type) h hB h3 xs hxs 5
  refine wpList_plain hgd fun K hK => ?_
  unfold Oper.wp execOp
  simp only [ho, resolve, invoke, builtin, Sem.run_bind, Sem.run_pure, Result.andThen_ok, List.map_toArray, List.map_cons, List.map_nil, hs, hx, hr]
  exact hK _ _ (hk ao' c' w' h1 h2)

theorem own_u8 {w : World} {B n : Nat} {ao : Option Addr} {c : Nat} {es : List UInt8} (h : w.ownsRow B 5 1 (.slice ao n c) n (es.map u8v)) (hn : n = es.length) :
    (convert 56 9 (.slice ao n c)).run Tryz.prog w = .ok (.string ⟨es.toArray⟩) w := by
  subst hn
  rcases h.2 with ⟨hv, h0⟩ | ⟨g, c', cur, hv, _, hg, _, _, _, hcur⟩
  · obtain ⟨rfl, _, rfl⟩ : ao = none ∧ es.length = 0 ∧ c = 0 := by simpa using hv
    have : es = [] := List.eq_nil_of_length_eq_zero h0
    subst this
    show (convert 56 9 (.slice none 0 0)).run Tryz.prog w = _
    rw [run_convert_bytes_string w _ _ _ none 0 0 Tryz.underlying56 Tryz.underlying5 Tryz.underlying9]
    rfl
  · cases hv
    refine run_convert_bytes_back w _ _ 5 ⟨g, 0, none⟩ c es Tryz.underlying56 Tryz.underlying5 Tryz.underlying9 fun j hj => ?_
    have h1 : (cur.toList.take (es.length * 1))[j]? = some (u8v es[j]) := by
      rw [hcur, List.getElem?_map, List.getElem?_eq_getElem hj]; rfl
    rw [List.getElem?_take_of_lt (by omega), Array.getElem?_toList] at h1
    rw [Addr.add_lit, cell_of_row _ _ _ _ _ _ hg, Nat.zero_add]
    exact h1

theorem hexD_val : ∀ n : Nat, n < 16 → ((hexD n).toNat : Int) = if (n : Int) < 10 then 48 + (n : Int) else 97 + (n : Int) - 10 := by decide +kernel
set_option maxHeartbeats 400000 in
theorem RHex_any (n : Nat) (z : Int) (hz : z = n) (hn : n < 16) (w : World) : Calls Tryz.prog 80 #[.int .u8 z] w fun e w' => e = .returned (u8v (hexD n)) ∧ w = w' := by
  subst hz
  have hv := hexD_val n hn
  by_cases h : n < 10
  · have hi : (n : Int) < 10 := by omega
    rw [if_pos hi] at hv
    have HV := Lib.hid (congrArg (fun z => Ending.returned (Value.int .u8 z)) hv)
    clear hv
    go_enter Tryz.func80, Tryz.ntmps80
    go_wp2_with fail
    go_ret
    exact ⟨HV.out.symm, rfl⟩
  · have hi : ¬ (n : Int) < 10 := by omega
    rw [if_neg hi] at hv
    have HV := Lib.hid (congrArg (fun z => Ending.returned (Value.int .u8 z)) hv)
    clear hv
    go_enter Tryz.func80, Tryz.ntmps80
    go_wp2_with fail
    go_ret
    exact ⟨HV.out.symm, rfl⟩

set_option maxRecDepth 100000 in
set_option maxHeartbeats 400000 in
theorem RDigits_any (z : Int) (hz : i64 z) (w : World) :
    Calls Tryz.prog 55 #[.int .i64 z] w fun e w' => e = .returned (.string ⟨(Lib.itoa z).toArray⟩) ∧ w = w' := by
  by_cases h : z < 0
  · obtain ⟨n, rfl⟩ : ∃ n : Nat, z = -(n : Int) := ⟨z.natAbs, by omega⟩
    have h1 := hz.1
    have hn : n < 2 ^ 64 := by omega
    have hw : IntKind.u64.wrap (-IntKind.u64.wrap (-(n : Int))) = n := by
      rw [IntKind.wrap_u64, IntKind.wrap_u64]
      omega
    have HI := Lib.hid (congrArg (fun l : List UInt8 => Ending.returned (Value.string ⟨l.toArray⟩)) (show Lib.itoa (-(n : Int)) = 45 :: Lib.decDigits n by unfold Lib.itoa; rw [if_pos h, Int.natAbs_neg, Int.natAbs_natCast]))
    have HL := decDigits_short (u := n) hn
    have hadd := add_named (show 45 :: Lib.decDigits n = [45] ++ Lib.decDigits n from rfl) (by decide) (by omega) w
    have HNN := Lib.hid hn
    clear HL hz h1 hn
    go_enter Tryz.func55, Tryz.ntmps55
    go_wp2_with fail
    refine (natural_any n HNN.out _).mono ?_
    rintro e w1 ⟨rfl, rfl⟩
    go_wp2_with fail
    go_ret
    exact ⟨HI.out.symm, rfl⟩
  · obtain ⟨n, rfl⟩ : ∃ n : Nat, z = n := ⟨z.toNat, by omega⟩
    have h2 := hz.2
    have e : Lib.itoa (n : Int) = Lib.decDigits n := by unfold Lib.itoa; rw [if_neg h]; rfl
    rw [e]
    exact Digits_any n (by omega) w
end Go.Proofs.YtiofnjnaleglgaaGreatDoor
