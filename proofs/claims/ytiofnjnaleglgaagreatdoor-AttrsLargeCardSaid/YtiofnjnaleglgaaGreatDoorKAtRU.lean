/-
  The reference's 'Value' and 'Print' of right attributes by contracts.
-/
import Derived.Test.YtiofnjnaleglgaaGreatDoorKAtRT
import Derived.Test.YtiofnjnaleglgaaGreatDoorG29
import Derived.Test.YtiofnjnaleglgaaGreatDoorG30
namespace Go.Proofs.YtiofnjnaleglgaaGreatDoor
open Go.RowKit

/-- What has been written before the m-th number. -/
def preI (zs : List Int) (m : Nat) : List UInt8 := 91 :: Lib.join ((zs.take m).map Lib.itoa) gap
theorem take_it {zs : List Int} {m : Nat} (hm : m < zs.length) : (zs.take (m + 1)).map Lib.itoa = (zs.take m).map Lib.itoa ++ [Lib.itoa (zs[m]?.getD 0)] := by
  rw [List.take_add_one, List.getElem?_eq_getElem hm, List.map_append]
  rfl
theorem preI_first {zs : List Int} (h : 0 < zs.length) : preI zs 1 = preI zs 0 ++ Lib.itoa (zs[0]?.getD 0) := by
  unfold preI
  rw [take_it h]
  simp [Lib.join_one, Lib.join_nil]
theorem preI_next {zs : List Int} {m : Nat} (h : m < zs.length) (h0 : 0 < m) : preI zs (m + 1) = (preI zs m ++ gap) ++ Lib.itoa (zs[m]?.getD 0) := by
  unfold preI
  rw [take_it h, join_snoc _ _ (by
    intro e
    have := congrArg List.length e
    simp only [List.length_map, List.length_take, List.length_nil] at this
    omega)]
  simp
theorem preI_len {zs : List Int} (hz : ∀ z ∈ zs, i64 z) (h100 : zs.length ≤ 100) (m : Nat) : (preI zs m).length ≤ 100000 := by
  have := join_lens 30 ((zs.take m).map Lib.itoa) (fun p hp => by
    obtain ⟨z, hz1, rfl⟩ := List.mem_map.1 hp
    have h1 := hz z (List.mem_of_mem_take hz1)
    have := Lib.itoa_length_le z h1.1 h1.2
    omega)
  rw [List.length_map, List.length_take] at this
  have h2 : min m zs.length ≤ 100 := by omega
  have h3 := Nat.mul_le_mul_left (30 + 2) h2
  simp only [preI, List.length_cons]
  omega
theorem ret_bytes (t : ByteArray) : Ending.returned (Value.string t) = Ending.returned (Value.string ⟨t.data.toList.toArray⟩) := congrArg (fun s => Ending.returned (Value.string s)) (bytes_eq rfl)
theorem itoa_len20 {z : Int} (h : i64 z) : (Lib.itoa z).length ≤ 21 := Lib.itoa_length_le z h.1 h.2

set_option maxHeartbeats 4000000 in
set_option maxRecDepth 100000 in
theorem RValue_any (a : At) (v : Value) (ai : Option Addr) (ci : Nat) (ao : Option Addr) (ct : Nat) (hr : rightB a = true) (w : World) (ha : AttAt w a v ai ci ao ct) :
    Calls Tryz.prog 32 #[v] w fun e w' => e = .returned (.string ⟨(valueL a).toArray⟩) ∧ Below w.heap.size w w' := by
  have hv := ha.val
  have HI := Lib.hid ha.ints
  have HT := Lib.hid ha.texts
  have HW := Lib.hid ha.wf
  clear ha
  subst hv
  have B0 := Lib.hid (alloc_below w (.cells #[.string a.name, .int .i64 a.kind, .int .i64 a.num, .string a.text, .slice ai a.ints.length ci, .slice ao a.texts.length ct] 29))
  have T0 := Lib.hid (heap_alloc_new w (.cells #[.string a.name, .int .i64 a.kind, .int .i64 a.num, .string a.text, .slice ai a.ints.length ci, .slice ao a.texts.length ct] 29))
  obtain ⟨_, ⟨n, z, rfl⟩ | ⟨n, t, rfl, ht⟩ | ⟨n, t, rfl, ht⟩ | ⟨n, t, rfl, ht⟩ | ⟨n, zs, rfl, hz⟩ | ⟨n, ss, rfl, hs, hss⟩⟩ := right_cases hr
  · have hz := HW.out.num
    dsimp only at B0 T0 HI HT ⊢
    go_enter Tryz.func32, Tryz.ntmps32
    go_upto_region 1 with fail
    generalize w.alloc (.cells #[.string n, .int .i64 0, .int .i64 z, .string ⟨#[]⟩, .slice ai 0 ci, .slice ao 0 ct] 29) = w0 at B0 T0 ⊢
    obtain ⟨D, hD⟩ : ∃ D, D = w.heap.size := ⟨_, rfl⟩
    rw [← hD] at T0 ⊢
    clear hD
    obtain ⟨y0, y1, y2, y3, y4, y5, yf⟩ := cells6 T0.out
    go_wp2_with fail
    refine (RDigits_any z hz _).mono ?_
    rintro e w1 ⟨rfl, rfl⟩
    go_wp2_with fail
    go_ret
    exact ⟨rfl, B0.out⟩
  · have ht5 : t.size ≤ 100000 := by omega
    dsimp only at B0 T0 HI HT ⊢
    go_enter Tryz.func32, Tryz.ntmps32
    go_upto_region 1 with fail
    generalize w.alloc (.cells #[.string n, .int .i64 1, .int .i64 0, .string t, .slice ai 0 ci, .slice ao 0 ct] 29) = w0 at B0 T0 ⊢
    obtain ⟨D, hD⟩ : ∃ D, D = w.heap.size := ⟨_, rfl⟩
    rw [← hD] at T0 ⊢
    clear hD
    obtain ⟨y0, y1, y2, y3, y4, y5, yf⟩ := cells6 T0.out
    go_wp2_with fail
    refine (RQuote_any t ht5 _).mono ?_
    rintro e w1 ⟨rfl, hb⟩
    have HB := Lib.hid hb
    clear hb
    go_wp2_with fail
    go_ret
    exact ⟨rfl, B0.out.trans (HB.out.mono B0.out.size)⟩
  · obtain ⟨T, rfl⟩ : ∃ T : List UInt8, t = ⟨T.toArray⟩ := ⟨t.data.toList, bytes_eq rfl⟩
    have hnl : T.length ≤ 60 := name_size ht
    have hadd := fun w => add_named (show (64 :: T) = [64] ++ T from rfl) (by decide) (by omega) w
    dsimp only at B0 T0 HI HT ⊢
    go_enter Tryz.func32, Tryz.ntmps32
    go_upto_region 1 with fail
    generalize w.alloc (.cells #[.string n, .int .i64 2, .int .i64 0, .string ⟨T.toArray⟩, .slice ai 0 ci, .slice ao 0 ct] 29) = w0 at B0 T0 ⊢
    obtain ⟨D, hD⟩ : ∃ D, D = w.heap.size := ⟨_, rfl⟩
    rw [← hD] at T0 ⊢
    clear hD
    obtain ⟨y0, y1, y2, y3, y4, y5, yf⟩ := cells6 T0.out
    go_wp2_with fail
    go_ret
    exact ⟨rfl, B0.out⟩
  · dsimp only at B0 T0 HI HT ⊢
    go_enter Tryz.func32, Tryz.ntmps32
    go_upto_region 1 with fail
    generalize w.alloc (.cells #[.string n, .int .i64 3, .int .i64 0, .string t, .slice ai 0 ci, .slice ao 0 ct] 29) = w0 at B0 T0 ⊢
    obtain ⟨D, hD⟩ : ∃ D, D = w.heap.size := ⟨_, rfl⟩
    rw [← hD] at T0 ⊢
    clear hD
    obtain ⟨y0, y1, y2, y3, y4, y5, yf⟩ := cells6 T0.out
    go_wp2_with fail
    go_ret
    exact ⟨ret_bytes t, B0.out⟩
  · have HZ := Lib.hid HW.out.ints
    dsimp only at B0 T0 HI HT ⊢
    go_enter Tryz.func32, Tryz.ntmps32
    go_upto_region 1 with fail
    generalize w.alloc (.cells #[.string n, .int .i64 4, .int .i64 0, .string ⟨#[]⟩, .slice ai zs.length ci, .slice ao 0 ct] 29) = w0 at B0 T0 ⊢
    obtain ⟨D, hD⟩ : ∃ D, D = w.heap.size := ⟨_, rfl⟩
    rw [← hD] at T0 ⊢
    clear hD
    obtain ⟨y0, y1, y2, y3, y4, y5, yf⟩ := cells6 T0.out
    have I0 := Lib.hid (HI.out.below B0.out)
    have hzi : (zs.length : Int) ≤ 100 := by omega
    go_wp2_with fail
    go_loopw [3, 4] (fun s i wr => ∃ m : Nat, m ≤ zs.length ∧ i = .int .i64 m ∧ s = .string ⟨(preI zs m).toArray⟩ ∧ wr = w0) (fun _ i _ => zs.length - (intOf i).toNat)
    case atStart => exact ⟨0, Nat.zero_le _, rfl, rfl, rfl⟩
    case round =>
      obtain ⟨m, hm, rfl, rfl, rfl⟩ := hrel
      have hsl := preI_len HZ.out hz m
      by_cases hlt : m < zs.length
      · rcases I0.out with h0 | ⟨a, rfl, hc⟩
        · rw [h0] at hlt
          exact absurd hlt (Nat.not_lt_zero _)
        have hcm := hc m hlt
        have hx60 : i64 (zs[m]?.getD 0) := by rw [List.getElem?_eq_getElem hlt]; exact HZ.out _ (List.getElem_mem hlt)
        clear hc
        by_cases h0 : 0 < m
        · have hstep := preI_next hlt h0
          obtain ⟨x, hx⟩ : ∃ x, x = zs[m]?.getD 0 := ⟨_, rfl⟩
          rw [← hx] at hcm hstep hx60
          clear hx
          have HX := Lib.hid (itoa_len20 hx60)
          obtain ⟨A2, hA2⟩ : ∃ A2, A2 = preI zs m ++ gap := ⟨_, rfl⟩
          rw [← hA2] at hstep
          have hl2 : A2.length ≤ 1000000 := by rw [hA2, List.length_append]; simp; omega
          have hadd1 := fun w => add_named hA2 (by omega) (by decide) w
          have hadd2 := fun w => add_named (show preI zs (m + 1) = A2 ++ Lib.itoa x from hstep) hl2 (by have := HX.out; omega) w
          have HX6 := Lib.hid hx60
          clear hstep hA2 hx60
          go_wp2_with fail
          refine (RDigits_any x HX6.out _).mono ?_
          rintro e w1 ⟨rfl, rfl⟩
          go_wp2_with fail
          go_roundw
          case rel => exact ⟨m + 1, by omega, by go_num, rfl, trivial⟩
          case measure => simp only [intOf]; omega
        · obtain rfl : m = 0 := by omega
          have hstep := preI_first hlt
          obtain ⟨x, hx⟩ : ∃ x, x = zs[0]?.getD 0 := ⟨_, rfl⟩
          rw [← hx] at hcm hstep hx60
          clear hx
          have HX := Lib.hid (itoa_len20 hx60)
          have hadd2 := fun w => add_named (show preI zs 1 = preI zs 0 ++ Lib.itoa x from hstep) (by omega) (by have := HX.out; omega) w
          rw [addr_zero] at hcm
          have HX6 := Lib.hid hx60
          clear hstep hx60
          go_wp2_with fail
          refine (RDigits_any x HX6.out _).mono ?_
          rintro e w1 ⟨rfl, rfl⟩
          go_wp2_with fail
          go_roundw
          case rel => exact ⟨1, by omega, by go_num, rfl, trivial⟩
          case measure => simp only [intOf]; omega
      · obtain rfl : m = zs.length := by omega
        have hadd := fun w => add_named (show intsL zs = preI zs zs.length ++ [93] by rw [preI, List.take_length]; rfl) (by omega) (by decide) w
        go_wp2_with fail
        go_ret
        exact ⟨rfl, B0.out⟩
  · have h60 : ∀ s ∈ ss, s.size ≤ 60 := all_len hss
    dsimp only at B0 T0 HI HT ⊢
    go_enter Tryz.func32, Tryz.ntmps32
    go_upto_region 1 with fail
    generalize w.alloc (.cells #[.string n, .int .i64 5, .int .i64 0, .string ⟨#[]⟩, .slice ai 0 ci, .slice ao ss.length ct] 29) = w0 at B0 T0 ⊢
    obtain ⟨D, hD⟩ : ∃ D, D = w.heap.size := ⟨_, rfl⟩
    rw [← hD] at T0 ⊢
    clear hD
    obtain ⟨y0, y1, y2, y3, y4, y5, yf⟩ := cells6 T0.out
    have S0 := Lib.hid (HT.out.below B0.out)
    go_wp2_with fail
    refine (JoinR_any ao ss ct (by omega) h60 _ S0.out).mono ?_
    rintro e w1 ⟨rfl, rfl⟩
    go_wp2_with fail
    go_ret
    exact ⟨rfl, B0.out⟩
end Go.Proofs.YtiofnjnaleglgaaGreatDoor
