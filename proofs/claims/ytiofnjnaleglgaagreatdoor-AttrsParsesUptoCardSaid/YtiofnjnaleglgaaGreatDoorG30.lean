/-
  Texts of mine in one file: AtLH, AtLJ.
-/
import Derived.Test.YtiofnjnaleglgaaGreatDoorG28
import Derived.Test.YtiofnjnaleglgaaGreatDoorG18
import Derived.Test.YtiofnjnaleglgaaGreatDoorG29
/-
  'listText' and 'Print' by their contracts.
-/
namespace Go.Proofs.YtiofnjnaleglgaaGreatDoor
open Go.RowKit

theorem join_lens (K : Nat) : ∀ ps : List (List UInt8), (∀ p ∈ ps, p.length ≤ K) → (Lib.join ps gap).length ≤ (K + 2) * ps.length
  | [], _ => by rw [Lib.join_nil]; exact Nat.zero_le _
  | p :: ps, h => by
    rw [Lib.join_length]
    have h1 : ∀ qs : List (List UInt8), (∀ q ∈ qs, q.length ≤ K) → Lib.lens qs ≤ K * qs.length := by
      intro qs
      induction qs with
      | nil => intro _; simp [Lib.lens]
      | cons q qs ih =>
        intro hq
        have := ih fun x hx => hq x (List.mem_cons_of_mem _ hx)
        have h2 := hq q List.mem_cons_self
        simp only [Lib.lens, List.length_cons, List.map_cons, List.sum_cons, Nat.mul_add, Nat.mul_one] at this ⊢
        omega
    have h2 := h1 (p :: ps) h
    have h3 : gap.length = 2 := rfl
    rw [h3]
    simp only [List.length_cons, Nat.mul_add, Nat.add_mul, Nat.mul_one] at h2 ⊢
    omega
theorem value_len {a : At} (h : rightB a = true) (hw : a.Wf) : (valueL a).length ≤ 100000 := by
  obtain ⟨_, ⟨n, z, rfl⟩ | ⟨n, t, rfl, ht⟩ | ⟨n, t, rfl, ht⟩ | ⟨n, t, rfl, ht⟩ | ⟨n, zs, rfl, hz⟩ | ⟨n, ss, rfl, hs, hss⟩⟩ := right_cases h
  · have := Lib.itoa_length_le z hw.num.1 hw.num.2
    show (Lib.itoa z).length ≤ _
    omega
  · show (quoteL t.data.toList).length ≤ _
    have := quotes_len t.data.toList
    rw [size_eq] at ht
    simp only [quoteL, List.length_cons, List.length_append, List.length_nil]
    omega
  · show (64 :: t.data.toList).length ≤ _
    have := name_size ht
    simp only [List.length_cons]
    omega
  · show t.data.toList.length ≤ _
    have := isTy_len ht
    omega
  · show (intsL zs).length ≤ _
    have := join_lens 30 (zs.map Lib.itoa) (fun p hp => by
      obtain ⟨z, hz, rfl⟩ := List.mem_map.1 hp
      have h1 := hw.ints z hz
      have := Lib.itoa_length_le z h1.1 h1.2
      omega)
    rw [List.length_map] at this
    simp only [intsL, List.length_cons, List.length_append, List.length_nil]
    omega
  · show (joinR (ss.map (·.data.toList))).length ≤ _
    have := join_lens 60 (ss.map (·.data.toList)) (fun p hp => by
      obtain ⟨s, hs, rfl⟩ := List.mem_map.1 hp
      exact isTy_len (List.all_eq_true.1 hss s hs))
    rw [List.length_map] at this
    simp only [joinR, List.length_cons, List.length_append, List.length_nil]
    omega
theorem item_len {a : At} (h : rightB a = true) (hw : a.Wf) : (itemL a).length ≤ 200000 := by
  have h1 := value_len h hw
  have h2 := name_size (right_cases h).1
  simp only [itemL, List.length_append, List.length_cons, List.length_nil]
  omega
/-- What has been written before the q-th attribute. -/
def preL (l : List At) (q : Nat) : List UInt8 := 123 :: Lib.join ((l.take q).map itemL) gap
theorem take_items {l : List At} {q : Nat} (h : q < l.length) : (l.take (q + 1)).map itemL = (l.take q).map itemL ++ [itemL (nth l q)] := by
  rw [List.take_succ_eq_append_getElem h, List.map_append, nth_get h]; rfl
theorem preL_first {l : List At} (h : 0 < l.length) : preL l 1 = preL l 0 ++ itemL (nth l 0) := by
  unfold preL
  rw [take_items h]
  simp [Lib.join_one, Lib.join_nil]
theorem preL_next {l : List At} {q : Nat} (h : q < l.length) (h0 : 0 < q) : preL l (q + 1) = (preL l q ++ gap) ++ itemL (nth l q) := by
  unfold preL
  rw [take_items h, join_snoc _ _ (by
    intro e
    have := congrArg List.length e
    simp only [List.length_map, List.length_take, List.length_nil] at this
    omega)]
  simp
theorem preL_len {l : List At} (hr : ∀ a ∈ l, rightB a = true ∧ a.Wf) (h100 : l.length ≤ 1000) (q : Nat) : (preL l q).length ≤ 200003000 := by
  have := join_lens 200000 ((l.take q).map itemL) (fun p hp => by
    obtain ⟨a, ha, rfl⟩ := List.mem_map.1 hp
    have := hr a (List.mem_of_mem_take ha)
    exact item_len this.1 this.2)
  rw [List.length_map, List.length_take] at this
  have h2 : min q l.length ≤ 1000 := by omega
  have h3 := Nat.mul_le_mul_left (200000 + 2) h2
  simp only [preL, List.length_cons]
  omega

set_option maxHeartbeats 2000000 in
set_option maxRecDepth 100000 in
theorem listText_any (so : Option Addr) (l : List At) (c : Nat) (hr : rightL l = true) (w : World) (hl : ListAt w so l) (hE : Env w) :
    Calls Tryz.prog 54 #[.slice so l.length c] w fun e w' => e = .returned (.string ⟨(listL l).toArray⟩) ∧ Below w.heap.size w w' := by
  have HE := Lib.hid hE
  have HL := Lib.hid hl
  have HR := Lib.hid hr
  have h100 := ((rightL_iff l).1 hr).1
  clear hE hl hr
  by_cases h0 : l.length = 0
  · have hl := Lib.hid (List.eq_nil_of_length_eq_zero h0)
    go_enter Tryz.func54, Tryz.ntmps54
    go_wp2_with fail
    go_ret
    exact ⟨by rw [show listL l = [] from if_pos hl.out]; rfl, Below.refl _ _⟩
  · rcases HL.out with h | ⟨bk, o, rfl, hc⟩
    · exact absurd (by rw [h]; rfl) h0
    have HC := Lib.hid hc
    have HWF := Lib.hid (show ∀ a ∈ l, rightB a = true ∧ a.Wf from fun a ha => ⟨rightL_all HR.out a ha, by
      obtain ⟨j, hj, rfl⟩ := nth_mem ha
      obtain ⟨_, _, _, _, h⟩ := hc j hj
      exact h.wf⟩)
    clear hc
    have hz2 : ¬ (l.length : Int) = 0 := by omega
    have B0 := Lib.hid (Bld.made (Below.refl w.heap.size w))
    go_enter Tryz.func54, Tryz.ntmps54
    go_wp2_with fail
    refine (B0.out.str ⟨#[123]⟩ (by decide)).mono ?_
    rintro e w1 ⟨rfl, hb, _, _⟩
    have B1 := Lib.hid (show Bld w w.heap.size (preL l 0) w1 from hb)
    clear hb B0
    go_wp2_with fail
    go_loopw [12] (fun i wr => ∃ q : Nat, q ≤ l.length ∧ i = .int .i64 q ∧ Hid (Bld w w.heap.size (preL l q) wr)) (fun i _ => l.length - (intOf i).toNat)
    case atStart => exact ⟨0, Nat.zero_le _, rfl, B1.out⟩
    case round =>
      obtain ⟨q, hq, rfl, HB⟩ := hrel
      by_cases hlt : q < l.length
      · obtain ⟨ai, ci, ao, ct, hel⟩ := HC.out q hlt
        have HEL := Lib.hid (hel.below HB.out.below)
        have HEL0 := Lib.hid hel
        have HA := Lib.hid (HWF.out (nth l q) (by rw [nth_get hlt]; exact List.getElem_mem hlt))
        have HLEN := Lib.hid (preL_len HWF.out (by omega) q)
        have HP1 := Lib.hid (fun (h : q = 0) => show preL l (q + 1) = preL l q ++ itemL (nth l q) by subst h; exact preL_first hlt)
        have HP2 := Lib.hid (fun (h : 0 < q) => preL_next hlt h)
        clear hel
        generalize nth l q = a at HEL HEL0 HA HP1 HP2
        have c0 := HEL.out.c0
        have c1 := HEL.out.c1
        have c2 := HEL.out.c2
        have c3 := HEL.out.c3
        have c4 := HEL.out.c4
        have c5 := HEL.out.c5
        have T1 := Lib.hid (heap_alloc_new wr (.cells #[.string a.name, .int .i64 a.kind, .int .i64 a.num, .string a.text, .slice ai a.ints.length ci, .slice ao a.texts.length ct] 29))
        have B2 := Lib.hid (HB.out.alloc (.cells #[.string a.name, .int .i64 a.kind, .int .i64 a.num, .string a.text, .slice ai a.ints.length ci, .slice ao a.texts.length ct] 29))
        have NS := Lib.hid (show a.name.size ≤ 60 by rw [size_eq]; exact name_size (right_cases HA.out.1).1)
        have VS := Lib.hid (value_len HA.out.1 HA.out.2)
        have AW := Lib.hid HEL0.out.att
        go_upto_region 8 with fail
        generalize wr.alloc (.cells #[.string a.name, .int .i64 a.kind, .int .i64 a.num, .string a.text, .slice ai a.ints.length ci, .slice ao a.texts.length ct] 29) = W1 at T1 B2 ⊢
        generalize wr.heap.size = D at T1 ⊢
        clear c0 c1 c2 c3 c4 c5 HEL HB
        by_cases hq0 : q = 0
        · have NEXT := Lib.hid (HP1.out hq0)
          have Y0 := B2
          have X0 := T1
          have L0 := HLEN
          have hx : ¬ (0 : Int) < (q : Int) := by omega
          clear HP1 HP2 hq0 B2 T1 HLEN
          generalize preL l q = PL at Y0 L0 NEXT
          obtain ⟨d0, d1, d2, d3, d4, d5, df⟩ := cells6 X0.out
          go_wp2_with fail
          refine (Y0.out.strA a.name (by have := L0.out; have := NS.out; omega)).mono ?_
          rintro e w4 ⟨rfl, hb, _, hk⟩
          have Y1 := Lib.hid hb
          have X1 := Lib.hid (hk _ _ _ X0.out)
          clear hb hk X0 Y0 d0 d1 d2 d3 d4 d5 df
          go_wp2_with fail
          refine (Y1.out.strA ⟨#[32, 61, 32]⟩ (by have := L0.out; have := NS.out; rw [size_eq] at this; simp only [List.length_append]; show _ + 3 ≤ _; omega)).mono ?_
          rintro e w5 ⟨rfl, hb, _, hk⟩
          have Y2 := Lib.hid hb
          have X2 := Lib.hid (hk _ _ _ X1.out)
          clear hb hk X1 Y1
          obtain ⟨d0, d1, d2, d3, d4, d5, df⟩ := cells6 X2.out
          go_wp2_with fail
          refine (value_any a _ ai ci ao ct HA.out.1 w5 (AW.out.below Y2.out.below) (HE.out.below Y2.out.below)).mono ?_
          rintro e w6 ⟨rfl, hb⟩
          have Y3 := Lib.hid (Y2.out.other hb)
          clear hb X2 Y2 d0 d1 d2 d3 d4 d5 df
          go_wp2_with fail
          refine (Y3.out.str ⟨(valueL a).toArray⟩ (by have := L0.out; have := NS.out; have := VS.out; rw [size_eq] at *; simp only [List.length_append] at *; show _ + _ + 3 + _ ≤ _; omega)).mono ?_
          rintro e w7 ⟨rfl, hb, _, _⟩
          have Y4 := Lib.hid (show Bld w w.heap.size (preL l (q + 1)) w7 by rw [NEXT.out]; have := hb; simpa [itemL, List.append_assoc] using this)
          clear hb Y3
          go_wp2_with fail
          go_roundw
          · exact ⟨q + 1, by omega, rfl, Y4.out⟩
          · simp only [intOf]; omega

        · have NEXT := Lib.hid (HP2.out (by omega))
          have hx : (0 : Int) < (q : Int) := by omega
          clear HP1 HP2 hq0
          go_wp2_with fail
          refine (B2.out.strA ⟨#[44, 32]⟩ (by have := HLEN.out; show _ + 2 ≤ _; omega)).mono ?_
          rintro e w3 ⟨rfl, hb, _, hk⟩
          have Y0 := Lib.hid (show Bld w w.heap.size (preL l q ++ gap) w3 from hb)
          have X0 := Lib.hid (hk _ _ _ T1.out)
          have L0 := Lib.hid (show (preL l q ++ gap).length ≤ 200003002 by have := HLEN.out; rw [List.length_append]; show _ + 2 ≤ _; omega)
          clear hb hk B2 T1 HLEN
          generalize preL l q ++ gap = PL at Y0 L0 NEXT
          obtain ⟨d0, d1, d2, d3, d4, d5, df⟩ := cells6 X0.out
          go_wp2_with fail
          refine (Y0.out.strA a.name (by have := L0.out; have := NS.out; omega)).mono ?_
          rintro e w4 ⟨rfl, hb, _, hk⟩
          have Y1 := Lib.hid hb
          have X1 := Lib.hid (hk _ _ _ X0.out)
          clear hb hk X0 Y0 d0 d1 d2 d3 d4 d5 df
          go_wp2_with fail
          refine (Y1.out.strA ⟨#[32, 61, 32]⟩ (by have := L0.out; have := NS.out; rw [size_eq] at this; simp only [List.length_append]; show _ + 3 ≤ _; omega)).mono ?_
          rintro e w5 ⟨rfl, hb, _, hk⟩
          have Y2 := Lib.hid hb
          have X2 := Lib.hid (hk _ _ _ X1.out)
          clear hb hk X1 Y1
          obtain ⟨d0, d1, d2, d3, d4, d5, df⟩ := cells6 X2.out
          go_wp2_with fail
          refine (value_any a _ ai ci ao ct HA.out.1 w5 (AW.out.below Y2.out.below) (HE.out.below Y2.out.below)).mono ?_
          rintro e w6 ⟨rfl, hb⟩
          have Y3 := Lib.hid (Y2.out.other hb)
          clear hb X2 Y2 d0 d1 d2 d3 d4 d5 df
          go_wp2_with fail
          refine (Y3.out.str ⟨(valueL a).toArray⟩ (by have := L0.out; have := NS.out; have := VS.out; rw [size_eq] at *; simp only [List.length_append] at *; show _ + _ + 3 + _ ≤ _; omega)).mono ?_
          rintro e w7 ⟨rfl, hb, _, _⟩
          have Y4 := Lib.hid (show Bld w w.heap.size (preL l (q + 1)) w7 by rw [NEXT.out]; have := hb; simpa [itemL, List.append_assoc] using this)
          clear hb Y3
          go_wp2_with fail
          go_roundw
          · exact ⟨q + 1, by omega, rfl, Y4.out⟩
          · simp only [intOf]; omega

      · obtain rfl : q = l.length := by omega
        go_wp2_with fail
        refine (HB.out.str ⟨#[125]⟩ (by have := preL_len HWF.out (by omega) l.length; show _ + 1 ≤ _; omega)).mono ?_
        rintro e w3 ⟨rfl, hb, _, _⟩
        have Y0 := Lib.hid hb
        clear hb HB
        go_wp2_with fail
        refine Y0.out.out.mono ?_
        rintro e w4 ⟨rfl, hb⟩
        have B4 := Lib.hid hb
        have HO := Lib.hid (show preL l l.length ++ [125] = listL l by
          unfold listL preL bodyL
          rw [if_neg (fun e => h0 (by rw [e]; rfl)), List.take_length, List.cons_append])
        clear hb Y0
        go_wp2_with fail
        go_ret
        exact ⟨by rw [← HO.out]; rfl, B4.out⟩

/-- What 'Print' answers. -/
def prStr (l : List At) : ByteArray := if rightL l then limStr ⟨(listL l).toArray⟩ else ⟨#[]⟩
def prErr (l : List At) : Int := if rightL l then limErr ⟨(listL l).toArray⟩ else 20
set_option maxHeartbeats 1000000 in
set_option maxRecDepth 100000 in
theorem Print_any (so : Option Addr) (l : List At) (c : Nat) (hn : l.length ≤ 9223372036854775807) (w : World) (hl : ListAt w so l) (hE : Env w) :
    Calls Tryz.prog 29 #[.slice so l.length c] w fun e w' => e = .returned (.tuple #[.string (prStr l), .int .i64 (prErr l)]) ∧ Below w.heap.size w w' := by
  have HE := Lib.hid hE
  have HL := Lib.hid hl
  clear hE hl
  go_enter Tryz.func29, Tryz.ntmps29
  go_wp2_with fail
  refine (isRightList_any so l c hn w HL.out HE.out).mono ?_
  rintro e w1 ⟨rfl, hb⟩
  have B1 := Lib.hid hb
  clear hb
  cases hr : rightL l with
  | false =>
    have h1 := Lib.hid (show prStr l = ⟨#[]⟩ from by unfold prStr; rw [hr]; rfl)
    have h2 := Lib.hid (show prErr l = 20 from by unfold prErr; rw [hr]; rfl)
    go_wp2_with fail
    go_ret2
    exact ⟨by rw [h1.out, h2.out]; rfl, B1.out⟩
  | true =>
    have h1 := Lib.hid (show prStr l = limStr ⟨(listL l).toArray⟩ from by unfold prStr; rw [hr]; rfl)
    have h2 := Lib.hid (show prErr l = limErr ⟨(listL l).toArray⟩ from by unfold prErr; rw [hr]; rfl)
    go_wp2_with fail
    refine (listText_any so l c hr w1 (HL.out.below B1.out) (HE.out.below B1.out)).mono ?_
    rintro e w2 ⟨rfl, hb⟩
    have B2 := Lib.hid (B1.out.trans (hb.mono B1.out.size))
    clear hb B1
    generalize (⟨(listL l).toArray⟩ : ByteArray) = V at h1 h2 ⊢
    go_wp2_with fail
    refine (limited_any V w2).mono ?_
    rintro e w3 ⟨rfl, hb⟩
    have B3 := Lib.hid (B2.out.trans (hb.mono B2.out.size))
    clear hb B2
    generalize limStr V = V1 at h1 ⊢
    generalize limErr V = z at h2 ⊢
    go_wp2_with fail
    go_ret2
    exact ⟨by rw [h1.out, h2.out]; rfl, B3.out⟩
end Go.Proofs.YtiofnjnaleglgaaGreatDoor

/-
  The reference's 'Equal' and 'EqualLists': what is the same is found to be.
-/
namespace Go.Proofs.YtiofnjnaleglgaaGreatDoor
open Go.RowKit

theorem drawn_below {B : Nat} {a w : World} (h : Below B a w) (n : Nat) : Below B a (w.drewN n) := ⟨h.os, h.tape, h.output, h.size, h.block⟩

set_option maxHeartbeats 4000000 in
set_option maxRecDepth 100000 in
theorem equal_same (a : At) (va vb : Value) (ai : Option Addr) (ci : Nat) (ao : Option Addr) (ct : Nat) (bi : Option Addr) (di : Nat) (bo : Option Addr) (dt : Nat) (w : World) (ha : AttAt w a va ai ci ao ct) (hb : AttAt w a vb bi di bo dt) :
    Calls Tryz.prog 17 #[va, vb] w fun e w' => e = .returned (.bool true) ∧ Below w.heap.size w w' := by
  have hva := ha.val
  have hvb := hb.val
  have HIA := Lib.hid ha.ints
  have HIB := Lib.hid hb.ints
  have HTA := Lib.hid ha.texts
  have HTB := Lib.hid hb.texts
  have hil := ha.wf.ilen
  have htl := ha.wf.tlen
  clear ha hb
  subst hva hvb
  have T0 := Lib.hid (heap_alloc_new w (.cells #[.string a.name, .int .i64 a.kind, .int .i64 a.num, .string a.text, .slice ai a.ints.length ci, .slice ao a.texts.length ct] 29))
  have B0 := Lib.hid (alloc_below w (.cells #[.string a.name, .int .i64 a.kind, .int .i64 a.num, .string a.text, .slice ai a.ints.length ci, .slice ao a.texts.length ct] 29))
  have T1 := Lib.hid (heap_alloc_new (w.alloc (.cells #[.string a.name, .int .i64 a.kind, .int .i64 a.num, .string a.text, .slice ai a.ints.length ci, .slice ao a.texts.length ct] 29)) (.cells #[.string a.name, .int .i64 a.kind, .int .i64 a.num, .string a.text, .slice bi a.ints.length di, .slice bo a.texts.length dt] 29))
  have T0' := Lib.hid ((Below.heap_alloc (w.alloc (.cells #[.string a.name, .int .i64 a.kind, .int .i64 a.num, .string a.text, .slice ai a.ints.length ci, .slice ao a.texts.length ct] 29)) (.cells #[.string a.name, .int .i64 a.kind, .int .i64 a.num, .string a.text, .slice bi a.ints.length di, .slice bo a.texts.length dt] 29) _ (lt_of_block T0.out)).trans T0.out)
  have B1 := Lib.hid (B0.out.alloc B0.out.size (.cells #[.string a.name, .int .i64 a.kind, .int .i64 a.num, .string a.text, .slice bi a.ints.length di, .slice bo a.texts.length dt] 29))
  rw [show (w.alloc (.cells #[.string a.name, .int .i64 a.kind, .int .i64 a.num, .string a.text, .slice ai a.ints.length ci, .slice ao a.texts.length ct] 29)).heap.size = w.heap.size + 1 from by simp] at T1
  go_enter Tryz.func17, Tryz.ntmps17
  go_upto_region 1 with fail
  generalize (w.alloc (.cells #[.string a.name, .int .i64 a.kind, .int .i64 a.num, .string a.text, .slice ai a.ints.length ci, .slice ao a.texts.length ct] 29)).alloc (.cells #[.string a.name, .int .i64 a.kind, .int .i64 a.num, .string a.text, .slice bi a.ints.length di, .slice bo a.texts.length dt] 29) = W1 at T0' T1 B1 ⊢
  clear T0 B0
  generalize hs : w.heap.size = S at T0' T1 B1 ⊢
  have Hs := Lib.hid hs
  clear hs
  have IA := Lib.hid (HIA.out.below (by rw [Hs.out]; exact B1.out))
  have IB := Lib.hid (HIB.out.below (by rw [Hs.out]; exact B1.out))
  have TA := Lib.hid (HTA.out.below (by rw [Hs.out]; exact B1.out))
  have TB := Lib.hid (HTB.out.below (by rw [Hs.out]; exact B1.out))
  clear HIA HIB HTA HTB
  obtain ⟨c0, c1, c2, c3, c4, c5, cf⟩ := cells6 T0'.out
  obtain ⟨d0, d1, d2, d3, d4, d5, df⟩ := cells6 T1.out
  go_wp2_with fail
  clear c0 c1 c2 c3 c4 c5 cf d0 d1 d2 d3 d4 d5 df
  go_loopw [5] (fun i wr => ∃ m : Nat, m ≤ a.ints.length ∧ i = .int .i64 m ∧ Hid (Below W1.heap.size W1 wr)) (fun i _ => a.ints.length - (intOf i).toNat)
  case atStart => exact ⟨0, Nat.zero_le _, rfl, Below.refl _ _⟩
  case round =>
    obtain ⟨m, hm, rfl, HB⟩ := hrel
    have X0 := Lib.hid ((HB.out.block _ (lt_of_block T0'.out)).trans T0'.out)
    have X1 := Lib.hid ((HB.out.block _ (lt_of_block T1.out)).trans T1.out)
    obtain ⟨c0, c1, c2, c3, c4, c5, cf⟩ := cells6 X0.out
    obtain ⟨d0, d1, d2, d3, d4, d5, df⟩ := cells6 X1.out
    by_cases hlt : m < a.ints.length
    · rcases IA.out.below HB.out with h0 | ⟨p, rfl, hc⟩
      · rw [h0] at hlt; exact absurd hlt (Nat.not_lt_zero _)
      rcases IB.out.below HB.out with h0 | ⟨p', rfl, hc'⟩
      · rw [h0] at hlt; exact absurd hlt (Nat.not_lt_zero _)
      have hcm := hc m hlt
      have hcm' := hc' m hlt
      clear hc hc'
      obtain ⟨z, hz⟩ : ∃ z, z = a.ints[m]?.getD 0 := ⟨_, rfl⟩
      rw [← hz] at hcm hcm'
      clear hz
      go_wp2_with fail
      go_quiet (fail)
      go_wp2_with fail
      go_roundw
      case rel => exact ⟨m + 1, by omega, by go_num, drawn_below HB.out _⟩
      case measure => simp [intOf]; omega
    · obtain rfl : m = a.ints.length := by omega
      go_wp2_with fail
      clear c0 c1 c2 c3 c4 c5 cf d0 d1 d2 d3 d4 d5 df X0 X1
      go_loopw [6] (fun i wt => ∃ m : Nat, m ≤ a.texts.length ∧ i = .int .i64 m ∧ Hid (Below W1.heap.size W1 wt)) (fun i _ => a.texts.length - (intOf i).toNat)
      case atStart => exact ⟨0, Nat.zero_le _, rfl, HB.out⟩
      case round =>
        obtain ⟨m, hm, rfl, HB⟩ := hrel
        have X0 := Lib.hid ((HB.out.block _ (lt_of_block T0'.out)).trans T0'.out)
        have X1 := Lib.hid ((HB.out.block _ (lt_of_block T1.out)).trans T1.out)
        obtain ⟨c0, c1, c2, c3, c4, c5, cf⟩ := cells6 X0.out
        obtain ⟨d0, d1, d2, d3, d4, d5, df⟩ := cells6 X1.out
        by_cases hlt : m < a.texts.length
        · rcases TA.out.below HB.out with h0 | ⟨p, rfl, hc⟩
          · rw [h0] at hlt; exact absurd hlt (Nat.not_lt_zero _)
          rcases TB.out.below HB.out with h0 | ⟨p', rfl, hc'⟩
          · rw [h0] at hlt; exact absurd hlt (Nat.not_lt_zero _)
          have hcm := hc m hlt
          have hcm' := hc' m hlt
          clear hc hc'
          obtain ⟨z, hz⟩ : ∃ z, z = a.texts[m]?.getD ByteArray.empty := ⟨_, rfl⟩
          rw [← hz] at hcm hcm'
          clear hz
          go_wp2_with fail
          go_quiet (fail)
          go_wp2_with fail
          go_roundw
          case rel => exact ⟨m + 1, by omega, by go_num, drawn_below HB.out _⟩
          case measure => simp [intOf]; omega
        · obtain rfl : m = a.texts.length := by omega
          go_wp2_with fail
          go_ret
          exact ⟨rfl, by rw [Hs.out]; exact B1.out.trans (HB.out.mono (by have := lt_of_block T1.out; omega))⟩

open Go.BigFrame in
set_option maxHeartbeats 4000000 in
set_option maxRecDepth 100000 in
theorem equalLists_same (so so' : Option Addr) (l : List At) (c c' : Nat) (hn : l.length ≤ 1000000) (w : World) (h1 : ListAt w so l) (h2 : ListAt w so' l) :
    Calls Tryz.prog 20 #[.slice so l.length c, .slice so' l.length c'] w fun e w' => e = .returned (.bool true) ∧ Below w.heap.size w w' := by
  have H1 := Lib.hid h1
  have H2 := Lib.hid h2
  clear h1 h2
  go_enter Tryz.func20, Tryz.ntmps20
  go_wp2_with fail
  go_loopw [5] (fun i wr => ∃ m : Nat, m ≤ l.length ∧ i = .int .i64 m ∧ Hid (Below w.heap.size w wr)) (fun i _ => l.length - (intOf i).toNat)
  case atStart => exact ⟨0, Nat.zero_le _, rfl, Below.refl _ _⟩
  case round =>
    obtain ⟨m, hm, rfl, HB⟩ := hrel
    by_cases hlt : m < l.length
    · rcases H1.out.below HB.out with h0 | ⟨bk, o, rfl, hc⟩
      · rw [h0] at hlt; exact absurd hlt (Nat.not_lt_zero _)
      rcases H2.out.below HB.out with h0 | ⟨bk', o', rfl, hc'⟩
      · rw [h0] at hlt; exact absurd hlt (Nat.not_lt_zero _)
      obtain ⟨ai, ci, ao, ct, hel⟩ := hc m hlt
      obtain ⟨bi, di, bo, dt, hel'⟩ := hc' m hlt
      clear hc hc'
      generalize nth l m = a at hel hel'
      have A1 := Lib.hid (show AttAt wr.drew a _ ai ci ao ct from ⟨rfl, hel.ints, hel.texts, hel.icap, hel.tcap, hel.wf⟩)
      have A2 := Lib.hid (show AttAt wr.drew a _ bi di bo dt from ⟨rfl, hel'.ints, hel'.texts, hel'.icap, hel'.tcap, hel'.wf⟩)
      have BD := Lib.hid HB.out.drew
      have c0 := hel.c0
      have c1 := hel.c1
      have c2 := hel.c2
      have c3 := hel.c3
      have c4 := hel.c4
      have c5 := hel.c5
      have d0 := hel'.c0
      have d1 := hel'.c1
      have d2 := hel'.c2
      have d3 := hel'.c3
      have d4 := hel'.c4
      have d5 := hel'.c5
      clear hel hel' HB
      go_upto_region 6 with fail
      refine wp_region_still_tail 8 (by kernel_rfl) (by kernel_rfl) ?_
      simp only [List.take_succ_cons, List.take_zero, List.drop_succ_cons, List.drop_zero]
      refine still_of_quiet _ _ ?_
      repeat (go_big_quiet_step (fail))
      refine wpQuiet_nil ?_
      change wpList _ _ _ _ _ wr.drew
      clear c0 c1 c2 c3 c4 c5 d0 d1 d2 d3 d4 d5
      go_wp2_with fail
      refine (equal_same a _ _ ai ci ao ct bi di bo dt wr.drew A1.out A2.out).mono ?_
      rintro e w2 ⟨rfl, hb⟩
      have B2 := Lib.hid (BD.out.trans (hb.mono BD.out.size))
      clear hb BD A1 A2
      go_wp2_with fail
      go_roundw
      case rel => exact ⟨m + 1, by omega, by go_num, B2.out⟩
      case measure => simp [intOf]; omega
    · obtain rfl : m = l.length := by omega
      go_wp2_with fail
      go_ret
      exact ⟨rfl, HB.out⟩
end Go.Proofs.YtiofnjnaleglgaaGreatDoor

