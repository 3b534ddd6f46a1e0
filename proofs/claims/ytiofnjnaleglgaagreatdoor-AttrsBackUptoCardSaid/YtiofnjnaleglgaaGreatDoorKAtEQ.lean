/-
  The reference's 'Equal' of any two attributes, and the program's.
-/
import Derived.Test.YtiofnjnaleglgaaGreatDoorG30
import Derived.Test.YtiofnjnaleglgaaGreatDoorJAtRS
namespace Go.Proofs.YtiofnjnaleglgaaGreatDoor
open Go.RowKit

/-- Whether two attributes are the same. -/
noncomputable def eqA (a b : At) : Bool := @decide (a = b) (Classical.propDecidable _)
theorem eqA_yes {a b : At} (h : a = b) : eqA a b = true := by unfold eqA; exact @decide_eq_true _ (Classical.propDecidable _) h
theorem eqA_no {a b : At} (h : a ≠ b) : eqA a b = false := by unfold eqA; exact @decide_eq_false _ (Classical.propDecidable _) h
theorem ret_eq {a b : At} (h : a = b) : Ending.returned (.bool true) = Ending.returned (.bool (eqA a b)) := by rw [eqA_yes h]
theorem ret_ne {a b : At} (h : a ≠ b) : Ending.returned (.bool false) = Ending.returned (.bool (eqA a b)) := by rw [eqA_no h]
theorem list_same {α : Type} (d : α) {l m : List α} (hn : l.length = m.length) (h : ∀ j, j < l.length → l[j]?.getD d = m[j]?.getD d) : l = m := by
  refine List.ext_getElem hn fun j h1 h2 => ?_
  have := h j h1
  rwa [List.getElem?_eq_getElem h1, List.getElem?_eq_getElem h2] at this
theorem upto_succ {P : Nat → Prop} {m : Nat} (h : ∀ j, j < m → P j) (hm : P m) : ∀ j, j < m + 1 → P j := fun j hj => by
  rcases Nat.lt_succ_iff_lt_or_eq.1 hj with h1 | rfl
  · exact h j h1
  · exact hm
theorem str_beq {x y : ByteArray} (h : x = y) : (x.toList == y.toList) = true := by rw [h]; simp


set_option maxHeartbeats 1000000 in
set_option maxRecDepth 100000 in
theorem sliceEqI_any (ao bo : Option Addr) (c d : Nat) (l m : List Int) (hl : l.length ≤ 9223372036854775807) (w : World) (h1 : IntsAt w ao l) (h2 : IntsAt w bo m) :
    Calls Tryz.prog 46 #[.slice ao l.length c, .slice bo m.length d] w fun e w' => (e = .returned (.bool true) ∧ l = m ∨ e = .returned (.bool false) ∧ l ≠ m) ∧ Below w.heap.size w w' := by
  have H1 := Lib.hid h1
  have H2 := Lib.hid h2
  clear h1 h2
  by_cases hlen : l.length = m.length
  rotate_left
  · have hle : ¬ (l.length : Int) = (m.length : Int) := by omega
    have HNE := Lib.hid (show l ≠ m from fun e => hlen (by rw [e]))
    clear hlen
    go_enter Tryz.func46, Tryz.ntmps46
    go_wp2_with fail
    go_ret
    exact ⟨.inr ⟨rfl, HNE.out⟩, Below.refl _ _⟩
  rw [← hlen]
  have HL := Lib.hid hlen
  clear hlen
  go_enter Tryz.func46, Tryz.ntmps46
  go_wp2_with fail
  go_loopw [13] (fun i wr => ∃ q : Nat, q ≤ l.length ∧ i = .int .i64 q ∧ Hid ((∀ j, j < q → l[j]?.getD 0 = m[j]?.getD 0) ∧ Below w.heap.size w wr)) (fun i _ => l.length - (intOf i).toNat)
  case atStart => exact ⟨0, Nat.zero_le _, rfl, fun j hj => absurd hj (Nat.not_lt_zero _), Below.refl _ _⟩
  case round =>
    obtain ⟨q, hq, rfl, HB⟩ := hrel
    by_cases hlt : q < l.length
    · rcases H1.out.below HB.out.2 with h0 | ⟨p, rfl, hc⟩
      · rw [h0] at hlt; exact absurd hlt (Nat.not_lt_zero _)
      rcases H2.out.below HB.out.2 with h0 | ⟨p', rfl, hc'⟩
      · have := HL.out; rw [h0] at this; rw [this] at hlt; exact absurd hlt (Nat.not_lt_zero _)
      have hcm := hc q hlt
      have hcm' := hc' q (by rw [← HL.out]; exact hlt)
      clear hc hc'
      obtain ⟨z, hz⟩ : ∃ z, z = l[q]?.getD 0 := ⟨_, rfl⟩
      obtain ⟨z', hz'⟩ : ∃ z', z' = m[q]?.getD 0 := ⟨_, rfl⟩
      rw [← hz] at hcm
      rw [← hz'] at hcm'
      have HZ := Lib.hid hz
      have HZ' := Lib.hid hz'
      clear hz hz'
      by_cases hzz : z = z'
      · have HZZ := Lib.hid hzz
        have HQ1 := Lib.hid (upto_succ HB.out.1 (by rw [← HZ.out, ← HZ'.out]; exact hzz))
        have hk : z = z' := hzz
        clear hzz
        go_wp2_with fail
        go_quiet (fail)
        go_wp2_with fail
        go_roundw
        case rel => exact ⟨q + 1, by omega, by go_num, HQ1.out, drawn_below HB.out.2 _⟩
        case measure => simp [intOf]; omega
      · have HNE := Lib.hid (show l ≠ m from fun e => hzz (by rw [HZ.out, HZ'.out, e]))
        have hk : ¬ z = z' := hzz
        clear hzz
        go_wp2_with fail
        go_quiet (fail)
        go_wp2_with fail
        go_ret
        exact ⟨.inr ⟨rfl, HNE.out⟩, drawn_below HB.out.2 _⟩
    · obtain rfl : q = l.length := by omega
      go_wp2_with fail
      go_ret
      exact ⟨.inl ⟨rfl, list_same 0 HL.out HB.out.1⟩, HB.out.2⟩

set_option maxHeartbeats 1000000 in
set_option maxRecDepth 100000 in
theorem sliceEqS_any (ao bo : Option Addr) (c d : Nat) (l m : List ByteArray) (hl : l.length ≤ 9223372036854775807) (w : World) (h1 : StrsAt w ao l) (h2 : StrsAt w bo m) :
    Calls Tryz.prog 47 #[.slice ao l.length c, .slice bo m.length d] w fun e w' => (e = .returned (.bool true) ∧ l = m ∨ e = .returned (.bool false) ∧ l ≠ m) ∧ Below w.heap.size w w' := by
  have H1 := Lib.hid h1
  have H2 := Lib.hid h2
  clear h1 h2
  by_cases hlen : l.length = m.length
  rotate_left
  · have hle : ¬ (l.length : Int) = (m.length : Int) := by omega
    have HNE := Lib.hid (show l ≠ m from fun e => hlen (by rw [e]))
    clear hlen
    go_enter Tryz.func47, Tryz.ntmps47
    go_wp2_with fail
    go_ret
    exact ⟨.inr ⟨rfl, HNE.out⟩, Below.refl _ _⟩
  rw [← hlen]
  have HL := Lib.hid hlen
  clear hlen
  go_enter Tryz.func47, Tryz.ntmps47
  go_wp2_with fail
  go_loopw [13] (fun i wr => ∃ q : Nat, q ≤ l.length ∧ i = .int .i64 q ∧ Hid ((∀ j, j < q → l[j]?.getD ByteArray.empty = m[j]?.getD ByteArray.empty) ∧ Below w.heap.size w wr)) (fun i _ => l.length - (intOf i).toNat)
  case atStart => exact ⟨0, Nat.zero_le _, rfl, fun j hj => absurd hj (Nat.not_lt_zero _), Below.refl _ _⟩
  case round =>
    obtain ⟨q, hq, rfl, HB⟩ := hrel
    by_cases hlt : q < l.length
    · rcases H1.out.below HB.out.2 with h0 | ⟨p, rfl, hc⟩
      · rw [h0] at hlt; exact absurd hlt (Nat.not_lt_zero _)
      rcases H2.out.below HB.out.2 with h0 | ⟨p', rfl, hc'⟩
      · have := HL.out; rw [h0] at this; rw [this] at hlt; exact absurd hlt (Nat.not_lt_zero _)
      have hcm := hc q hlt
      have hcm' := hc' q (by rw [← HL.out]; exact hlt)
      clear hc hc'
      obtain ⟨z, hz⟩ : ∃ z, z = l[q]?.getD ByteArray.empty := ⟨_, rfl⟩
      obtain ⟨z', hz'⟩ : ∃ z', z' = m[q]?.getD ByteArray.empty := ⟨_, rfl⟩
      rw [← hz] at hcm
      rw [← hz'] at hcm'
      have HZ := Lib.hid hz
      have HZ' := Lib.hid hz'
      clear hz hz'
      by_cases hzz : z = z'
      · have HZZ := Lib.hid hzz
        have HQ1 := Lib.hid (upto_succ HB.out.1 (by rw [← HZ.out, ← HZ'.out]; exact hzz))
        have hk := str_beq hzz
        clear hzz
        go_wp2_with fail
        go_quiet (fail)
        go_wp2_with fail
        go_roundw
        case rel => exact ⟨q + 1, by omega, by go_num, HQ1.out, drawn_below HB.out.2 _⟩
        case measure => simp [intOf]; omega
      · have HNE := Lib.hid (show l ≠ m from fun e => hzz (by rw [HZ.out, HZ'.out, e]))
        have hk := ne_beq hzz
        clear hzz
        go_wp2_with fail
        go_quiet (fail)
        go_wp2_with fail
        go_ret
        exact ⟨.inr ⟨rfl, HNE.out⟩, drawn_below HB.out.2 _⟩
    · obtain rfl : q = l.length := by omega
      go_wp2_with fail
      go_ret
      exact ⟨.inl ⟨rfl, list_same ByteArray.empty HL.out HB.out.1⟩, HB.out.2⟩

set_option maxHeartbeats 4000000 in
set_option maxRecDepth 100000 in
theorem REqual_any (a b : At) (va vb : Value) (ai : Option Addr) (ci : Nat) (ao : Option Addr) (ct : Nat) (bi : Option Addr) (di : Nat) (bo : Option Addr) (dt : Nat) (w : World) (ha : AttAt w a va ai ci ao ct) (hb : AttAt w b vb bi di bo dt) :
    Calls Tryz.prog 17 #[va, vb] w fun e w' => e = .returned (.bool (eqA a b)) ∧ Below w.heap.size w w' := by
  have hva := ha.val
  have hvb := hb.val
  have HIA := Lib.hid ha.ints
  have HIB := Lib.hid hb.ints
  have HTA := Lib.hid ha.texts
  have HTB := Lib.hid hb.texts
  have hil := ha.wf.ilen
  have htl := ha.wf.tlen
  clear ha hb
  subst hva hvb
  have T0 := Lib.hid (heap_alloc_new w (.cells #[.string a.name, .int .i64 a.kind, .int .i64 a.num, .string a.text, .slice ai a.ints.length ci, .slice ao a.texts.length ct] 29))
  have B0 := Lib.hid (alloc_below w (.cells #[.string a.name, .int .i64 a.kind, .int .i64 a.num, .string a.text, .slice ai a.ints.length ci, .slice ao a.texts.length ct] 29))
  have T1 := Lib.hid (heap_alloc_new (w.alloc (.cells #[.string a.name, .int .i64 a.kind, .int .i64 a.num, .string a.text, .slice ai a.ints.length ci, .slice ao a.texts.length ct] 29)) (.cells #[.string b.name, .int .i64 b.kind, .int .i64 b.num, .string b.text, .slice bi b.ints.length di, .slice bo b.texts.length dt] 29))
  have T0' := Lib.hid ((Below.heap_alloc (w.alloc (.cells #[.string a.name, .int .i64 a.kind, .int .i64 a.num, .string a.text, .slice ai a.ints.length ci, .slice ao a.texts.length ct] 29)) (.cells #[.string b.name, .int .i64 b.kind, .int .i64 b.num, .string b.text, .slice bi b.ints.length di, .slice bo b.texts.length dt] 29) _ (lt_of_block T0.out)).trans T0.out)
  have B1 := Lib.hid (B0.out.alloc B0.out.size (.cells #[.string b.name, .int .i64 b.kind, .int .i64 b.num, .string b.text, .slice bi b.ints.length di, .slice bo b.texts.length dt] 29))
  rw [show (w.alloc (.cells #[.string a.name, .int .i64 a.kind, .int .i64 a.num, .string a.text, .slice ai a.ints.length ci, .slice ao a.texts.length ct] 29)).heap.size = w.heap.size + 1 from by simp] at T1
  go_enter Tryz.func17, Tryz.ntmps17
  go_upto_region 1 with fail
  generalize (w.alloc (.cells #[.string a.name, .int .i64 a.kind, .int .i64 a.num, .string a.text, .slice ai a.ints.length ci, .slice ao a.texts.length ct] 29)).alloc (.cells #[.string b.name, .int .i64 b.kind, .int .i64 b.num, .string b.text, .slice bi b.ints.length di, .slice bo b.texts.length dt] 29) = W1 at T0' T1 B1 ⊢
  clear T0 B0
  generalize hs : w.heap.size = S at T0' T1 B1 ⊢
  have Hs := Lib.hid hs
  clear hs
  have IA := Lib.hid (HIA.out.below (by rw [Hs.out]; exact B1.out))
  have IB := Lib.hid (HIB.out.below (by rw [Hs.out]; exact B1.out))
  have TA := Lib.hid (HTA.out.below (by rw [Hs.out]; exact B1.out))
  have TB := Lib.hid (HTB.out.below (by rw [Hs.out]; exact B1.out))
  clear HIA HIB HTA HTB
  have BW : Hid (Below w.heap.size w W1) := by rw [Hs.out]; exact B1.out
  by_cases hn : a.name = b.name
  rotate_left
  · have HNE := Lib.hid (show a ≠ b from fun e => hn (by rw [e]))
    have xn := ne_beq hn
    clear hn
    obtain ⟨c0, c1, c2, c3, c4, c5, cf⟩ := cells6 T0'.out
    obtain ⟨d0, d1, d2, d3, d4, d5, df⟩ := cells6 T1.out
    go_wp2_with fail
    go_ret
    exact ⟨ret_ne HNE.out, BW.out⟩
  have En := Lib.hid hn
  have xn := str_beq hn
  clear hn
  by_cases hk : a.kind = b.kind
  rotate_left
  · have HNE := Lib.hid (show a ≠ b from fun e => hk (by rw [e]))
    have xk : ¬ a.kind = b.kind := hk
    clear hk
    obtain ⟨c0, c1, c2, c3, c4, c5, cf⟩ := cells6 T0'.out
    obtain ⟨d0, d1, d2, d3, d4, d5, df⟩ := cells6 T1.out
    go_wp2_with fail
    go_ret
    exact ⟨ret_ne HNE.out, BW.out⟩
  have Ek := Lib.hid hk
  have xk : a.kind = b.kind := hk
  clear hk
  by_cases hz : a.num = b.num
  rotate_left
  · have HNE := Lib.hid (show a ≠ b from fun e => hz (by rw [e]))
    have xz : ¬ a.num = b.num := hz
    clear hz
    obtain ⟨c0, c1, c2, c3, c4, c5, cf⟩ := cells6 T0'.out
    obtain ⟨d0, d1, d2, d3, d4, d5, df⟩ := cells6 T1.out
    go_wp2_with fail
    go_ret
    exact ⟨ret_ne HNE.out, BW.out⟩
  have Ez := Lib.hid hz
  have xz : a.num = b.num := hz
  clear hz
  by_cases ht : a.text = b.text
  rotate_left
  · have HNE := Lib.hid (show a ≠ b from fun e => ht (by rw [e]))
    have xt := ne_beq ht
    clear ht
    obtain ⟨c0, c1, c2, c3, c4, c5, cf⟩ := cells6 T0'.out
    obtain ⟨d0, d1, d2, d3, d4, d5, df⟩ := cells6 T1.out
    go_wp2_with fail
    go_ret
    exact ⟨ret_ne HNE.out, BW.out⟩
  have Et := Lib.hid ht
  have xt := str_beq ht
  clear ht
  by_cases hi : a.ints.length = b.ints.length
  rotate_left
  · have HNE := Lib.hid (show a ≠ b from fun e => hi (by rw [e]))
    have xi : ¬ (a.ints.length : Int) = (b.ints.length : Int) := by omega
    clear hi
    obtain ⟨c0, c1, c2, c3, c4, c5, cf⟩ := cells6 T0'.out
    obtain ⟨d0, d1, d2, d3, d4, d5, df⟩ := cells6 T1.out
    go_wp2_with fail
    go_ret
    exact ⟨ret_ne HNE.out, BW.out⟩
  have Ei := Lib.hid hi
  rw [← hi] at T1
  clear hi
  by_cases hs : a.texts.length = b.texts.length
  rotate_left
  · have HNE := Lib.hid (show a ≠ b from fun e => hs (by rw [e]))
    have xs : ¬ (a.texts.length : Int) = (b.texts.length : Int) := by omega
    clear hs
    obtain ⟨c0, c1, c2, c3, c4, c5, cf⟩ := cells6 T0'.out
    obtain ⟨d0, d1, d2, d3, d4, d5, df⟩ := cells6 T1.out
    go_wp2_with fail
    go_ret
    exact ⟨ret_ne HNE.out, BW.out⟩
  have Es := Lib.hid hs
  rw [← hs] at T1
  clear hs
  obtain ⟨c0, c1, c2, c3, c4, c5, cf⟩ := cells6 T0'.out
  obtain ⟨d0, d1, d2, d3, d4, d5, df⟩ := cells6 T1.out
  go_wp2_with fail
  clear c0 c1 c2 c3 c4 c5 cf d0 d1 d2 d3 d4 d5 df xn xk xz xt
  go_loopw [5] (fun i wr => ∃ m : Nat, m ≤ a.ints.length ∧ i = .int .i64 m ∧ Hid ((∀ j, j < m → a.ints[j]?.getD 0 = b.ints[j]?.getD 0) ∧ Below W1.heap.size W1 wr)) (fun i _ => a.ints.length - (intOf i).toNat)
  case atStart => exact ⟨0, Nat.zero_le _, rfl, fun j hj => absurd hj (Nat.not_lt_zero _), Below.refl _ _⟩
  case round =>
    obtain ⟨m, hm, rfl, HB⟩ := hrel
    have X0 := Lib.hid ((HB.out.2.block _ (lt_of_block T0'.out)).trans T0'.out)
    have X1 := Lib.hid ((HB.out.2.block _ (lt_of_block T1.out)).trans T1.out)
    obtain ⟨c0, c1, c2, c3, c4, c5, cf⟩ := cells6 X0.out
    obtain ⟨d0, d1, d2, d3, d4, d5, df⟩ := cells6 X1.out
    have BR := Lib.hid (BW.out.trans (HB.out.2.mono BW.out.size))
    by_cases hlt : m < a.ints.length
    · rcases IA.out.below HB.out.2 with h0 | ⟨p, rfl, hc⟩
      · rw [h0] at hlt; exact absurd hlt (Nat.not_lt_zero _)
      rcases IB.out.below HB.out.2 with h0 | ⟨p', rfl, hc'⟩
      · have := Ei.out; rw [h0] at this; rw [this] at hlt; exact absurd hlt (Nat.not_lt_zero _)
      have hcm := hc m hlt
      have hcm' := hc' m (by rw [← Ei.out]; exact hlt)
      clear hc hc'
      obtain ⟨z, hz⟩ : ∃ z, z = a.ints[m]?.getD 0 := ⟨_, rfl⟩
      obtain ⟨z', hz'⟩ : ∃ z', z' = b.ints[m]?.getD 0 := ⟨_, rfl⟩
      rw [← hz] at hcm
      rw [← hz'] at hcm'
      have HZ := Lib.hid hz
      have HZ' := Lib.hid hz'
      clear hz hz'
      by_cases hzz : z = z'
      · have HQ1 := Lib.hid (upto_succ HB.out.1 (by rw [← HZ.out, ← HZ'.out]; exact hzz))
        have hk : z = z' := hzz
        clear hzz
        go_wp2_with fail
        go_quiet (fail)
        go_wp2_with fail
        go_roundw
        case rel => exact ⟨m + 1, by omega, by go_num, HQ1.out, drawn_below HB.out.2 _⟩
        case measure => simp [intOf]; omega
      · have HNE := Lib.hid (show a ≠ b from fun e => hzz (by rw [HZ.out, HZ'.out, e]))
        have hk : ¬ z = z' := hzz
        clear hzz
        go_wp2_with fail
        go_quiet (fail)
        go_wp2_with fail
        go_ret
        exact ⟨ret_ne HNE.out, drawn_below BR.out _⟩
    · obtain rfl : m = a.ints.length := by omega
      have EI := Lib.hid (list_same 0 Ei.out HB.out.1)
      go_wp2_with fail
      clear c0 c1 c2 c3 c4 c5 cf d0 d1 d2 d3 d4 d5 df X0 X1
      go_loopw [6] (fun i wt => ∃ m : Nat, m ≤ a.texts.length ∧ i = .int .i64 m ∧ Hid ((∀ j, j < m → a.texts[j]?.getD ByteArray.empty = b.texts[j]?.getD ByteArray.empty) ∧ Below W1.heap.size W1 wt)) (fun i _ => a.texts.length - (intOf i).toNat)
      case atStart => exact ⟨0, Nat.zero_le _, rfl, fun j hj => absurd hj (Nat.not_lt_zero _), HB.out.2⟩
      case round =>
        obtain ⟨m, hm, rfl, HB⟩ := hrel
        have X0 := Lib.hid ((HB.out.2.block _ (lt_of_block T0'.out)).trans T0'.out)
        have X1 := Lib.hid ((HB.out.2.block _ (lt_of_block T1.out)).trans T1.out)
        obtain ⟨c0, c1, c2, c3, c4, c5, cf⟩ := cells6 X0.out
        obtain ⟨d0, d1, d2, d3, d4, d5, df⟩ := cells6 X1.out
        have BR := Lib.hid (BW.out.trans (HB.out.2.mono BW.out.size))
        by_cases hlt : m < a.texts.length
        · rcases TA.out.below HB.out.2 with h0 | ⟨p, rfl, hc⟩
          · rw [h0] at hlt; exact absurd hlt (Nat.not_lt_zero _)
          rcases TB.out.below HB.out.2 with h0 | ⟨p', rfl, hc'⟩
          · have := Es.out; rw [h0] at this; rw [this] at hlt; exact absurd hlt (Nat.not_lt_zero _)
          have hcm := hc m hlt
          have hcm' := hc' m (by rw [← Es.out]; exact hlt)
          clear hc hc'
          obtain ⟨z, hz⟩ : ∃ z, z = a.texts[m]?.getD ByteArray.empty := ⟨_, rfl⟩
          obtain ⟨z', hz'⟩ : ∃ z', z' = b.texts[m]?.getD ByteArray.empty := ⟨_, rfl⟩
          rw [← hz] at hcm
          rw [← hz'] at hcm'
          have HZ := Lib.hid hz
          have HZ' := Lib.hid hz'
          clear hz hz'
          by_cases hzz : z = z'
          · have HQ1 := Lib.hid (upto_succ HB.out.1 (by rw [← HZ.out, ← HZ'.out]; exact hzz))
            have hk := str_beq hzz
            clear hzz
            go_wp2_with fail
            go_quiet (fail)
            go_wp2_with fail
            go_roundw
            case rel => exact ⟨m + 1, by omega, by go_num, HQ1.out, drawn_below HB.out.2 _⟩
            case measure => simp [intOf]; omega
          · have HNE := Lib.hid (show a ≠ b from fun e => hzz (by rw [HZ.out, HZ'.out, e]))
            have hk := ne_beq hzz
            clear hzz
            go_wp2_with fail
            go_quiet (fail)
            go_wp2_with fail
            go_ret
            exact ⟨ret_ne HNE.out, drawn_below BR.out _⟩
        · obtain rfl : m = a.texts.length := by omega
          have ES := Lib.hid (list_same ByteArray.empty Es.out HB.out.1)
          go_wp2_with fail
          go_ret
          refine ⟨ret_eq ?_, BR.out⟩
          obtain ⟨n1, k1, z1, t1, i1, s1⟩ := a
          obtain ⟨n2, k2, z2, t2, i2, s2⟩ := b
          have e1 := En.out
          have e2 := Ek.out
          have e3 := Ez.out
          have e4 := Et.out
          have e5 := EI.out
          have e6 := ES.out
          dsimp only at e1 e2 e3 e4 e5 e6
          rw [e1, e2, e3, e4, e5, e6]
end Go.Proofs.YtiofnjnaleglgaaGreatDoor
