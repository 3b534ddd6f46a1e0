/-
  The walk of the law 'AttrsLarge': the long texts that it makes, the list of attributes with them, and what the calls say of it.
-/
import Derived.Test.YtiofnjnaleglgaaGreatDoorKAtST
import Derived.Test.YtiofnjnaleglgaaGreatDoorKAtRP
import Derived.Test.YtiofnjnaleglgaaGreatDoorKAtPR
namespace Go.Proofs.YtiofnjnaleglgaaGreatDoor
open Go.RowKit

/-- A slice of bytes of the call's own, q of them written. -/
structure TextS (w : World) (g : Nat) (b : UInt8) (q : Nat) (W : World) : Prop where
  own : W.ownsRow w.heap.size 5 1 (.slice (some ⟨g, 0, none⟩) 1000 1000) 1000 (List.replicate q (u8v b) ++ List.replicate (1000 - q) (Value.int .u8 0))
  below : Below w.heap.size w W
theorem set_rep (u z : Value) (q k : Nat) (h : q < k) : (List.replicate q u ++ List.replicate (k - q) z).set q u = List.replicate (q + 1) u ++ List.replicate (k - (q + 1)) z := by
  rw [List.set_append_right _ _ (by simp), List.length_replicate, Nat.sub_self, show k - q = (k - (q + 1)) + 1 by omega, List.replicate_succ, List.set_cons_zero, List.replicate_succ', List.append_assoc]
  rfl
theorem TextS.block {w : World} {g : Nat} {b : UInt8} {q : Nat} {W : World} (h : TextS w g b q W) : W.heap[g]? = some (.cells (List.replicate q (u8v b) ++ List.replicate (1000 - q) (Value.int .u8 0)).toArray 5 (0, 0)) ∧ w.heap.size ≤ g := by
  rcases h.own.2 with ⟨hv, _⟩ | ⟨g', c, cur, hv, hb, hg, _, _, hs, ht⟩
  · cases hv
  · cases hv
    refine ⟨?_, hb⟩
    rw [hg]
    congr 2
    apply Array.toList_inj.1
    rw [List.toList_toArray, ← ht, List.take_of_length_le (by rw [Array.length_toList, hs]; exact Nat.le_refl _)]
theorem TextS.cell {w : World} {g : Nat} {b : UInt8} {q : Nat} {W : World} (h : TextS w g b q W) (hq : q < 1000) : W.cell? ⟨g, q, none⟩ = some (Value.int .u8 0) := by
  rw [cell_of_row _ _ _ _ _ _ h.block.1, List.getElem?_toArray, List.getElem?_append_right (by simp), List.length_replicate, Nat.sub_self, List.getElem?_replicate, if_pos (by omega)]
theorem TextS.more {w : World} {g : Nat} {b : UInt8} {q : Nat} {W : World} (h : TextS w g b q W) (hq : q < 1000) : TextS w g b (q + 1) (W.setCell ⟨g, q, none⟩ (u8v b)) := by
  have h1 := (h.own.stored q (u8v b)).1
  rw [set_rep _ _ _ _ hq] at h1
  exact ⟨h1, h.below.setCell h.block.2 _⟩
def longT (b : UInt8) : ByteArray := ⟨(List.replicate 1000 b).toArray⟩
theorem longT_size (b : UInt8) : (longT b).size = 1000 := by
  show (List.replicate 1000 b).toArray.size = 1000
  rw [List.size_toArray, List.length_replicate]
theorem TextS.text {w : World} {g : Nat} {b : UInt8} {W X : World} (h : TextS w g b 1000 W) (hb : Below W.heap.size W X) : (convert 56 9 (.slice (some ⟨g, 0, none⟩) 1000 1000)).run Tryz.prog X = .ok (.string (longT b)) X := by
  have hblk := h.block.1
  have hg := (hb.block _ (lt_of_block hblk)).trans hblk
  have hl : (List.replicate 1000 b).length = 1000 := List.length_replicate
  have hr := run_convert_bytes_back (P := Tryz.prog) X 56 9 5 ⟨g, 0, none⟩ 1000 (List.replicate 1000 b) Tryz.underlying56 Tryz.underlying5 Tryz.underlying9 (fun j hj => by
    rw [hl] at hj
    rw [Addr.add_lit, cell_of_row _ _ _ _ _ _ hg, Nat.zero_add, List.getElem?_toArray, List.getElem?_append_left (by rw [List.length_replicate]; exact hj), List.getElem?_replicate, if_pos hj, List.getElem_replicate]
    rfl)
  rw [hl] at hr
  exact hr

/-- Attributes made one after another. -/
def genE (f : Nat → At) (n : Nat) : List El := (List.range n).map fun i => ⟨f i, none, 0, none, 0⟩
def genL (f : Nat → At) (n : Nat) : List At := (List.range n).map f
theorem genE_len (f : Nat → At) (n : Nat) : (genE f n).length = n := by unfold genE; rw [List.length_map, List.length_range]
theorem genL_len (f : Nat → At) (n : Nat) : (genL f n).length = n := by unfold genL; rw [List.length_map, List.length_range]
theorem genE_snoc (f : Nat → At) (n : Nat) : genE f (n + 1) = genE f n ++ [⟨f n, none, 0, none, 0⟩] := by unfold genE; rw [List.range_succ, List.map_append]; rfl
theorem genE_map (f : Nat → At) (n : Nat) : (genE f n).map (fun x : El => x.a) = genL f n := by unfold genE genL; rw [List.map_map]; rfl
theorem nth_gen {f : Nat → At} {n j : Nat} (h : j < n) : nth (genL f n) j = f j := by
  rw [nth_get (by rw [genL_len]; exact h)]
  unfold genL
  rw [List.getElem_map, List.getElem_range]
def bigA (t : ByteArray) (i : Nat) : At := ⟨nmN i, 1, 0, t, [], []⟩
theorem big_wf (t : ByteArray) (i : Nat) : (bigA t i).Wf :=
  ⟨⟨(by decide : (-9223372036854775808 : Int) ≤ 1), (by decide : (1 : Int) ≤ 9223372036854775807)⟩, ⟨(by decide : (-9223372036854775808 : Int) ≤ 0), (by decide : (0 : Int) ≤ 9223372036854775807)⟩, fun z hz => (by cases hz), Nat.zero_le _, Nat.zero_le _⟩
theorem big_rightB {t : ByteArray} (ht : t.size = 1000) (j : Nat) (hj : j < 100) : rightB (bigA t j) = true := by
  have h := many_rightB j hj
  unfold rightB at h ⊢
  rw [Bool.and_eq_true] at h ⊢
  refine ⟨h.1, ?_⟩
  unfold kindB
  rw [if_neg (show ¬ (bigA t j).kind = 0 from (by decide : ¬ (1 : Int) = 0)), if_pos (show (bigA t j).kind = 1 from rfl), Bool.and_eq_true, decide_eq_true_iff]
  exact ⟨rfl, Nat.le_of_eq ht⟩
theorem big_right {t : ByteArray} (ht : t.size = 1000) {n : Nat} (hn : n ≤ 100) : rightL (genL (bigA t) n) = true := by
  refine (rightL_iff _).2 ⟨by rw [genL_len]; exact hn, fun j hj => ?_⟩
  rw [genL_len] at hj
  unfold goodAt
  rw [nth_gen hj, big_rightB ht j (by omega), Bool.true_and, Bool.or_eq_true, decide_eq_true_iff]
  rcases j with _ | j
  · exact .inl rfl
  · refine .inr ?_
    rw [Nat.add_sub_cancel, nth_gen (by omega)]
    exact less_of (many_less j (by omega))
theorem flat_four : ∀ (l : List UInt8), (∀ b ∈ l, (quoteB b).length = 4) → (l.flatMap quoteB).length = 4 * l.length
  | [], _ => rfl
  | b :: l, h => by
    rw [List.flatMap_cons, List.length_append, h b (List.mem_cons_self ..), flat_four l (fun x hx => h x (List.mem_cons_of_mem _ hx)), List.length_cons]
    omega
theorem quote_high {b : UInt8} (h : 128 ≤ b.toNat) : (quoteB b).length = 4 := by
  unfold quoteB
  rw [if_neg (by omega), if_neg (by omega), if_neg (by omega), if_pos (by omega)]
  rfl
theorem big_val {b : UInt8} (h : 128 ≤ b.toNat) (i : Nat) : (valueL (bigA (longT b) i)).length = 4002 := by
  show (quoteL (List.replicate 1000 b)).length = 4002
  unfold quoteL
  rw [List.length_cons, List.length_append, flat_four _ (fun x hx => by rw [(List.mem_replicate.1 hx).2]; exact quote_high h), List.length_replicate]
  rfl
structure BigS (f : Nat → At) (w : World) (ao : Option Addr) (c n : Nat) (W : World) : Prop where
  own : W.ownsRow w.heap.size 29 6 (.slice ao n c) n ((genE f n).flatMap El.cells)
  below : Below w.heap.size w W
theorem gen_ok {f : Nat → At} (hf : ∀ i, (f i).Wf ∧ (f i).ints = [] ∧ (f i).texts = []) (w : World) (n : Nat) : ∀ e ∈ genE f n, ElOK w e := fun e he => by
  unfold genE at he
  obtain ⟨i, _, rfl⟩ := List.mem_map.1 he
  obtain ⟨h1, h2, h3⟩ := hf i
  refine ⟨?_, ?_, ?_, ?_, h1⟩ <;> dsimp only
  · rw [h2]; exact .inl rfl
  · rw [h3]; exact .inl rfl
  · rw [h2]; exact Nat.le_refl _
  · rw [h3]; exact Nat.le_refl _
theorem BigS.list {f : Nat → At} (hf : ∀ i, (f i).Wf ∧ (f i).ints = [] ∧ (f i).texts = []) {w : World} {ao : Option Addr} {c n : Nat} {W : World} (h : BigS f w ao c n W) : ListAt W ao (genL f n) := by
  rw [← genE_map]
  exact (list_of_own h.own (genE_len f n).symm (gen_ok hf W n)).1
theorem BigS.more {f : Nat → At} {w : World} {ao ao' : Option Addr} {c c' n : Nat} {W W' : World} {e : El} (h : BigS f w ao c n W) (he : (⟨f n, none, 0, none, 0⟩ : El) = e) (ho : W'.ownsRow w.heap.size 29 6 (.slice ao' (genE f n ++ [e]).length c') (genE f n ++ [e]).length ((genE f n ++ [e]).flatMap El.cells)) (hb : Below w.heap.size W W') : BigS f w ao' c' (n + 1) W' := by
  subst he
  rw [← genE_snoc, genE_len] at ho
  exact ⟨ho, h.below.trans hb⟩

theorem u8_of_wf {n : Int} (h : (Lit.int .u8 n).wf = true) : ∃ c : Nat, c < 256 ∧ n = (c : Int) := by
  have h1 : (0 ≤ n ∧ n ≤ 255) := by
    simp [Lit.wf, IntKind.min, IntKind.max, IntKind.signed, IntKind.bits] at h
    exact h
  exact ⟨n.toNat, by omega, by omega⟩
theorem u8_high (c : Nat) : ∃ b : UInt8, 128 ≤ b.toNat ∧ Value.int .u8 (128 + (c : Int) % 128) = u8v b := by
  refine ⟨UInt8.ofNat (128 + c % 128), ?_, ?_⟩
  · rw [UInt8.toNat_ofNat']; omega
  · unfold u8v
    rw [UInt8.toNat_ofNat']
    congr 1
    omega

set_option maxHeartbeats 4000000 in
set_option maxRecDepth 100000 in
theorem AttrsLarge_any (n : Int) (c : Nat) (hc : c < 256) (w : World) (hE : Env w) :
    Calls Tryz.prog 8 #[.int .i64 n, .int .u8 (c : Int)] w fun e w' => e = .returned (.bool true) ∧ Below w.heap.size w w' := by
  have HE := Lib.hid hE
  clear hE
  obtain ⟨i, hi, hiz, his, hib⟩ := info_u8
  obtain ⟨b, hb128, hbv⟩ := u8_high c
  have HB128 := Lib.hid hb128
  have HBV := Lib.hid hbv
  have hci : (c : Int) < 256 := by omega
  clear hb128 hbv
  go_enter Tryz.func8, Tryz.ntmps8
  go_wp2_with (at_make; refine wpList_make_full _ rfl _ _ 56 rfl w.heap.size 5 i (.int .u8 0) 1 Tryz.underlying56 hi hiz his .i64 .i64 1000 1000 1000 rfl rfl rfl rfl (by rw [hib]; decide) (by decide) (Nat.le_refl _) ?_; intro w1 hown hg; have B1 := Lib.hid ((Below.refl w.heap.size w).grown hg (Nat.le_refl _) (fun j e => by cases e)); have O1 := Lib.hid hown; clear hown hg)
  have T1 : Hid (TextS w w.heap.size b 0 w1) := by
    have h := O1.out
    refine ⟨?_, B1.out⟩
    rw [show (Value.int .u8 0).cells = #[Value.int .u8 0] from rfl, toList_madeCells_one] at h
    exact h
  clear O1 B1
  generalize w.heap.size = g at T1 ⊢
  go_loopw [7] (fun i wr => ∃ q : Nat, q ≤ 1000 ∧ i = .int .i64 q ∧ Hid (TextS w g b q wr)) (fun i _ => 1000 - (intOf i).toNat)
  case atStart => exact ⟨0, Nat.zero_le _, rfl, T1⟩
  case round =>
    obtain ⟨q, hq, rfl, HT⟩ := hrel
    by_cases hlt : q < 1000
    · have hqi : (q : Int) < 1000 := by omega
      have hcell := HT.out.cell hlt
      have hfz := frozen_of_row wr g q _ _ HT.out.block.1
      have HL := Lib.hid hlt
      clear hlt
      go_wp2_with fail
      go_roundw
      case rel => exact ⟨q + 1, by have := HL.out; omega, by go_num, by rw [HBV.out]; exact HT.out.more HL.out⟩
      case measure => have := HL.out; simp only [intOf]; omega
    · obtain rfl : q = 1000 := by omega
      rw [show ((1000 : Nat) : Int) = 1000 from rfl]
      clear hlt
      have BT := Lib.hid HT.out.below
      have GS := Lib.hid (lt_of_block HT.out.block.1)
      have hsz := longT_size b
      have HTX := Lib.hid (fun X (hb : Below wr.heap.size wr X) => HT.out.text hb)
      have HSZ := Lib.hid hsz
      have HHI := Lib.hid (fun i => big_val HB128.out i)
      clear hsz HT hq T1
      generalize longT b = t at HTX HSZ HHI
      obtain ⟨m, hm10, hmod⟩ : ∃ m : Nat, m < 10 ∧ (IntKind.u64.wrap n).tmod 10 = (m : Int) := by
        have h0 : 0 ≤ IntKind.u64.wrap n := by rw [IntKind.wrap_u64]; omega
        rw [Int.tmod_eq_emod_of_nonneg h0]
        exact ⟨(IntKind.u64.wrap n % 10).toNat, by omega, by omega⟩
      have hm10i : (m : Int) < 10 := by omega
      obtain ⟨wq, rfl⟩ : ∃ wq, wq = wr := ⟨_, rfl⟩
      go_wp2_with fail
      go_loopw [5, 8] (fun o i wt => ∃ (xo : Option Addr) (xc k : Nat), k ≤ 60 + m ∧ i = .int .i64 k ∧ o = .slice xo k xc ∧ Hid (BigS (bigA t) wq xo xc k wt)) (fun _ i _ => 60 + m - (intOf i).toNat)
      case atStart => exact ⟨none, 0, 0, Nat.zero_le _, rfl, rfl, World.ownsRow_nil _ _ _ _, Below.refl _ _⟩
      case round =>
        obtain ⟨xo, xc, k, hk, rfl, rfl, HQ⟩ := hrel
        by_cases hlt : k < 60 + m
        · have hli : (k : Int) < 60 + (m : Int) := by omega
          go_upto_region 10 with fail
          obtain ⟨x, y, hnm, ⟨ex, ex'⟩, ey, ey'⟩ := name_parts k (by omega)
          have HNM := Lib.hid hnm
          have ha := fun w => add_bytes ⟨#[97]⟩ ⟨#[x]⟩ ⟨#[97, x]⟩ rfl (by decide) (Nat.le_of_ble_eq_true rfl) w
          have hb := fun w => add_bytes ⟨#[97, x]⟩ ⟨#[y]⟩ ⟨#[97, x, y]⟩ rfl (Nat.le_of_ble_eq_true rfl) (Nat.le_of_ble_eq_true rfl) w
          have htx := HTX.out wr HQ.out.below
          have OWN := Lib.hid (show wr.ownsRow wq.heap.size 29 6 (.slice xo (genE (bigA t) k).length xc) (genE (bigA t) k).length ((genE (bigA t) k).flatMap El.cells) by rw [genE_len]; exact HQ.out.own)
          have HZZ := Lib.hid HQ.out.below.size
          have H3 := Lib.hid (show (genE (bigA t) k).length ≤ 2000 by rw [genE_len]; omega)
          have HNE := Lib.hid (genE_len (bigA t) k).symm
          clear hnm
          go_wp2_with (at_builtin; refine wp_append_one_n (e := ⟨⟨⟨#[97, x, y]⟩, 1, 0, t, [], []⟩, none, 0, none, 0⟩) rfl _ _ rfl HNE.out OWN.out HZZ.out H3.out rfl rfl ?_; intro xo3 rc3 w7 hown hbel; have OWN3 := Lib.hid hown; have HBEL := Lib.hid hbel; clear hown hbel)
          go_roundw
          case rel => exact ⟨xo3, rc3, k + 1, by omega, by go_num, rfl, HQ.out.more (by unfold bigA; rw [HNM.out]) OWN3.out HBEL.out⟩
          case measure => simp only [intOf]; omega
        · have hge : ¬ (k : Int) < 60 + (m : Int) := by omega
          have hk1 : 0 < k := by omega
          have hk100 : k ≤ 100 := by omega
          have LI := Lib.hid (HQ.out.list (fun i => ⟨big_wf t i, rfl, rfl⟩))
          have BR := Lib.hid (BT.out.trans (HQ.out.below.mono BT.out.size))
          have HRT := Lib.hid (big_right HSZ.out hk100)
          have HN0 := Lib.hid (show nth (genL (bigA t) k) 0 = bigA t 0 from nth_gen hk1)
          have HR0 := Lib.hid (big_rightB HSZ.out 0 (by decide))
          have HW0 := Lib.hid (big_wf t 0)
          have HV0 := Lib.hid (HHI.out 0)
          have HGL := Lib.hid (genL_len (bigA t) k)
          have HK := Lib.hid hk1
          have HK1 := Lib.hid hk100
          clear HQ HHI HTX HSZ BT GS HB128 hk hlt hk1 hk100
          generalize genL (bigA t) k = L at LI HRT HN0 HGL
          generalize bigA t 0 = a0 at HN0 HR0 HW0 HV0
          have HKN := Lib.hid (show L.length ≤ 9223372036854775807 by have := HK1.out; rw [HGL.out]; omega)
          have H1 := Lib.hid (Print_any xo L xc HKN.out wr LI.out (HE.out.below BR.out))
          rw [HGL.out] at H1
          obtain ⟨bk, o, rfl, ai, ci, ao, ct, hel⟩ : ∃ bk o, xo = some ⟨bk, o, none⟩ ∧ ∃ ai ci ao ct, ElAt wr bk o a0 ai ci ao ct := by
            rcases LI.out with h | ⟨bk, o, h, hc⟩
            · have h1 := HGL.out; have h2 := HK.out; rw [h] at h1; rw [← h1] at h2; exact absurd h2 (Nat.lt_irrefl _)
            · obtain ⟨ai, ci, ao, ct, he⟩ := hc 0 (by rw [HGL.out]; exact HK.out)
              rw [HN0.out, Nat.zero_mul, Nat.add_zero] at he
              exact ⟨bk, o, h, ai, ci, ao, ct, he⟩
          have E0 := Lib.hid hel
          clear hel
          have hki : (0 : Int) < (k : Int) := by have := HK.out; omega
          by_cases hlong : 262144 < (listL L).length
          · have H2 := H1
            have HP := Lib.hid (pr_long HRT.out hlong)
            obtain ⟨LS, hLS⟩ : ∃ LS : ByteArray, LS = ⟨(listL L).toArray⟩ := ⟨_, rfl⟩
            have hLz : LS.size = (listL L).length := by rw [hLS]; exact mk_size _
            have hLi : (262144 : Int) < (LS.size : Int) := by omega
            have HLS := Lib.hid hLS
            clear hlong hLS hLz
            go_wp2_with fail
            refine H1.out.mono ?_
            rintro e w8 ⟨rfl, hb⟩
            rw [HP.out.1, HP.out.2]
            have B8 := Lib.hid (BR.out.trans (hb.mono BR.out.size))
            have E8 := Lib.hid (E0.out.below hb)
            have L8 := Lib.hid (LI.out.below hb)
            clear hb H1 BR E0 LI
            have c0 := E8.out.c0
            have c1 := E8.out.c1
            have c2 := E8.out.c2
            have c3 := E8.out.c3
            have c4 := E8.out.c4
            have c5 := E8.out.c5
            go_wp2_with fail
            refine (Value_any a0 _ ai ci ao ct w8 E8.out.att (HE.out.below B8.out)).mono ?_
            rintro e w9 ⟨rfl, hb⟩
            obtain ⟨V, hV⟩ : ∃ V : ByteArray, V = ⟨(valueL a0).toArray⟩ := ⟨_, rfl⟩
            have hVz : V.size = 4002 := by rw [hV]; exact (mk_size _).trans HV0.out
            rw [(val_good HR0.out HW0.out).1, (val_good HR0.out HW0.out).2, ← hV]
            have hVi : (V.size : Int) = 4002 := by omega
            have B9 := Lib.hid (B8.out.trans (hb.mono B8.out.size))
            have L9 := Lib.hid (L8.out.below hb)
            clear hb hV hVz B8 E8 L8 c0 c1 c2 c3 c4 c5
            have H1 := Lib.hid (RPrint_any (some ⟨bk, o, none⟩) L xc HRT.out w9 L9.out)
            rw [HGL.out, ← HLS.out] at H1
            go_wp2_with fail
            refine H1.out.mono ?_
            rintro e w10 ⟨rfl, hb⟩
            have B10 := Lib.hid (B9.out.trans (hb.mono B9.out.size))
            have L10 := Lib.hid (L9.out.below hb)
            clear hb B9 L9 H1
            have H1 := Lib.hid (CheckL_any (some ⟨bk, o, none⟩) L xc HKN.out w10 L10.out (HE.out.below B10.out))
            rw [HGL.out, errL_yes HRT.out] at H1
            go_wp2_with fail
            refine H1.out.mono ?_
            rintro e w11 ⟨rfl, hb⟩
            have B11 := Lib.hid (B10.out.trans (hb.mono B10.out.size))
            clear hb B10 L10 H1
            go_wp2_with fail
            refine (awake2_any _ (HE.out.below B11.out)).mono ?_
            rintro e wz ⟨rfl, hb⟩
            have BZ := Lib.hid (B11.out.trans (hb.mono B11.out.size))
            clear hb
            go_wp2_with fail
            go_ret
            exact ⟨rfl, BZ.out⟩
          · have H2 := H1
            have HP := Lib.hid (pr_good HRT.out hlong)
            obtain ⟨LS, hLS⟩ : ∃ LS : ByteArray, LS = ⟨(listL L).toArray⟩ := ⟨_, rfl⟩
            have hLz : LS.size = (listL L).length := by rw [hLS]; exact mk_size _
            have hLi : ¬ (262144 : Int) < (LS.size : Int) := by omega
            have HLS := Lib.hid hLS
            clear hlong hLS hLz
            go_wp2_with fail
            refine H1.out.mono ?_
            rintro e w8 ⟨rfl, hb⟩
            rw [HP.out.1, HP.out.2]
            rw [← HLS.out]
            have B8 := Lib.hid (BR.out.trans (hb.mono BR.out.size))
            have E8 := Lib.hid (E0.out.below hb)
            have L8 := Lib.hid (LI.out.below hb)
            clear hb H1 BR E0 LI
            have c0 := E8.out.c0
            have c1 := E8.out.c1
            have c2 := E8.out.c2
            have c3 := E8.out.c3
            have c4 := E8.out.c4
            have c5 := E8.out.c5
            go_wp2_with fail
            refine (Value_any a0 _ ai ci ao ct w8 E8.out.att (HE.out.below B8.out)).mono ?_
            rintro e w9 ⟨rfl, hb⟩
            obtain ⟨V, hV⟩ : ∃ V : ByteArray, V = ⟨(valueL a0).toArray⟩ := ⟨_, rfl⟩
            have hVz : V.size = 4002 := by rw [hV]; exact (mk_size _).trans HV0.out
            rw [(val_good HR0.out HW0.out).1, (val_good HR0.out HW0.out).2, ← hV]
            have hVi : (V.size : Int) = 4002 := by omega
            have B9 := Lib.hid (B8.out.trans (hb.mono B8.out.size))
            have L9 := Lib.hid (L8.out.below hb)
            clear hb hV hVz B8 E8 L8 c0 c1 c2 c3 c4 c5
            have H1 := Lib.hid (RPrint_any (some ⟨bk, o, none⟩) L xc HRT.out w9 L9.out)
            rw [HGL.out, ← HLS.out] at H1
            go_wp2_with fail
            refine H1.out.mono ?_
            rintro e w10 ⟨rfl, hb⟩
            have B10 := Lib.hid (B9.out.trans (hb.mono B9.out.size))
            have L10 := Lib.hid (L9.out.below hb)
            clear hb B9 L9 H1
            have H1 := Lib.hid (CheckL_any (some ⟨bk, o, none⟩) L xc HKN.out w10 L10.out (HE.out.below B10.out))
            rw [HGL.out, errL_yes HRT.out] at H1
            go_wp2_with fail
            refine H1.out.mono ?_
            rintro e w11 ⟨rfl, hb⟩
            have B11 := Lib.hid (B10.out.trans (hb.mono B10.out.size))
            clear hb B10 L10 H1
            have hse := self_beq LS
            go_wp2_with fail
            refine (awake2_any _ (HE.out.below B11.out)).mono ?_
            rintro e wz ⟨rfl, hb⟩
            have BZ := Lib.hid (B11.out.trans (hb.mono B11.out.size))
            clear hb
            go_wp2_with fail
            go_ret
            exact ⟨rfl, BZ.out⟩
end Go.Proofs.YtiofnjnaleglgaaGreatDoor
