/-
  Texts of mine in one file: KAtPW, KAtPL.
-/
import Derived.Test.YtiofnjnaleglgaaGreatDoorQP
import Derived.Test.YtiofnjnaleglgaaGreatDoorHAtRL
import Derived.Test.YtiofnjnaleglgaaGreatDoorQRP
import Derived.Test.YtiofnjnaleglgaaGreatDoorQRD
import Derived.Deep.RegionHeld3
import Derived.Deep.Cut
import Derived.Deep.DeepCutAuto
import Derived.BigRegion
import Derived.Test.YtiofnjnaleglgaaGreatDoorG40
import Derived.Test.YtiofnjnaleglgaaGreatDoorG30
/-
  The reference's 'Parse'.
-/
namespace Go.Proofs.YtiofnjnaleglgaaGreatDoor
open Go.RowKit

theorem own_lt {W : World} {B : Nat} {ao : Option Addr} {n c : Nat} {xs : List Value} (h : W.ownsRow B 29 6 (.slice ao n c) n xs) : ∀ k, some k = (Value.slice ao n c).ownBlock → k < W.heap.size := by
  intro k e
  rcases h.2 with ⟨hv, _⟩ | ⟨g, cc, cur, hv, hb, hg, _⟩
  · rw [hv] at e; cases e
  · rw [hv] at e
    cases e
    exact lt_of_block hg
theorem parPost_yes {s : ByteArray} {w w' : World} {L : List At} {ao : Option Addr} {n c : Nat} (hn : n = L.length) (hl : ListAt w' ao L) (hg : Good s L) (hb : Below w.heap.size w w') : RParPost s w (.returned (.tuple #[.slice ao n c, .bool true])) w' := by
  subst hn
  exact ⟨hb, .inl ⟨L, ao, c, rfl, hl, hg⟩⟩
theorem parPost_no {s : ByteArray} {w w' : World} {ao : Option Addr} {n c : Nat} (h : ∀ L, ¬ Good s L) (hb : Below w.heap.size w w') : RParPost s w (.returned (.tuple #[.slice ao n c, .bool false])) w' := ⟨hb, .inr ⟨ao, n, c, rfl, h⟩⟩
/-- The state at the next round's head, or of the list that is returned. -/
theorem ParS.more {w w3 w5 : World} {s q : ByteArray} {ao ao' : Option Addr} {c c' : Nat} {es : List El} {N : Nat} {x : At} {v : Value} {ai xo : Option Addr} {ci ct : Nat} (h : ParS w s q ao c es w3) (hN : ∀ k, some k = (Value.slice ao es.length c).ownBlock → k < N)
    (hx : AttAt w3 x v ai ci xo ct) (hi : ∀ y, ai = some y → N ≤ y.block) (ht : ∀ y, xo = some y → N ≤ y.block) (hr : rightB x = true)
    (hb : Below w.heap.size w3 w5) (hf : FarKept w3 w5 (.slice ao es.length c) (.slice ao' (es ++ [(⟨x, ai, ci, xo, ct⟩ : El)]).length c')) :
    ∀ e ∈ es ++ [(⟨x, ai, ci, xo, ct⟩ : El)], ElOK w5 e ∧ FarE w5 (.slice ao' (es ++ [(⟨x, ai, ci, xo, ct⟩ : El)]).length c') e ∧ rightB e.a = true := by
  intro e he
  rcases List.mem_append.1 he with he | he
  · obtain ⟨h1, h2, h3⟩ := h.ok e he
    obtain ⟨h4, h5⟩ := far_kept h1 h2 hf hb.size
    exact ⟨h4, h5, h3⟩
  · obtain rfl := List.mem_singleton.1 he
    obtain ⟨h1, h2⟩ := far_new (N := N) hx hN hi ht
    obtain ⟨h4, h5⟩ := far_kept h1 h2 hf hb.size
    exact ⟨h4, h5, hr⟩

set_option maxHeartbeats 16000000 in
set_option maxRecDepth 100000 in
theorem RParse_any (s : ByteArray) (hs : s.size ≤ 1048576) (w : World) (hE : Env w) : Calls Tryz.prog 36 #[.string s] w (RParPost s w) := by
  by_cases h123 : s.data.toList[0]? = some 123
  rotate_left
  · exact RParse_front s hs w h123
  have HE := Lib.hid hE
  have hpos : 0 < s.size := by
    rw [size_eq]
    refine Decidable.by_contra fun h => ?_
    rw [List.getElem?_eq_none (by omega)] at h123
    cases h123
  have hem : s.toList.isEmpty = false := by
    rw [ByteArray.toList_eq]
    cases hl : s.data.toList with
    | nil => rw [hl] at h123; cases h123
    | cons c t => rfl
  have hix0 := fun w => ix_at (s := s) (m := 0) (z := 0) rfl hpos w
  have hhd := get_at hpos
  generalize s[0]'hpos = c0 at hix0 hhd
  obtain rfl : c0 = 123 := Option.some.inj (hhd.symm.trans h123)
  have hix1 : ∀ w, (Instr.index 9 (.string s) (.int .i64 0)).run Tryz.prog w = .ok (.int .u8 123) w := hix0
  have hr0 : RestOf s [] (s.extract 1 s.size).data.toList := by
    refine RestOf.start ?_
    rw [back_extract]
    cases hl : s.data.toList with
    | nil => rw [hl] at h123; cases h123
    | cons c t => rw [hl] at h123; injection h123 with h123; rw [h123]; rfl
  have HR0 := Lib.hid hr0
  have HSZ := Lib.hid hs
  have hszi : (s.size : Int) ≤ 1048576 := by omega
  have hsz1 : 1 ≤ (s.size : Int) := by omega
  have HPOS := Lib.hid hpos
  clear hr0 hhd h123 hix0 hE hs hpos
  go_enter Tryz.func36, Tryz.ntmps36
  go_wp2_with fail
  go_loopw [0, 5] (fun sv ov wr => ∃ (q : ByteArray) (ao : Option Addr) (cp : Nat) (es : List El), sv = .string q ∧ ov = .slice ao es.length cp ∧ Hid (ParS w s q ao cp es wr)) (fun sv _ _ => strLen sv)
  case atStart => exact ⟨_, none, 0, [], rfl, rfl, World.ownsRow_nil _ _ _ _, fun e he => (by cases he), Below.refl _ _, by rw [ByteArray.size_extract]; have := HSZ.out; simp only [List.length_nil]; omega, HR0.out⟩
  case round =>
    clear hix1
    obtain ⟨q, ao, cp, es, rfl, rfl, HP⟩ := hrel
    have HQZ := Lib.hid (show q.size ≤ 1048576 by have := HP.out.few; omega)
    have hqi : (q.size : Int) ≤ 1048576 := by have := HQZ.out; omega
    go_wp2_with fail
    go_loopw [6] (fun i w2 => ∃ m : Nat, m ≤ q.size ∧ i = .int .i64 m ∧ Hid (∀ j, j < m → q.data.toList[j]? ≠ some 32) ∧ w2 = wr) (fun i _ => q.size - (intOf i).toNat)
    case atStart => exact ⟨0, Nat.zero_le _, rfl, fun j hj => absurd hj (Nat.not_lt_zero _), rfl⟩
    case round =>
      obtain ⟨m, hms, rfl, HA, rfl⟩ := hrel
      by_cases hlt : m < q.size
      rotate_left
      · have HNO := Lib.hid (par_short HP.out HE.out HSZ.out HA.out (.inr (by rw [← size_eq]; omega)) (by omega))
        have hgei : (q.size : Int) ≤ (m : Int) := by omega
        have h3i : (q.size : Int) < (m : Int) + 3 := by omega
        obtain rfl : m = q.size := by omega
        clear hlt
        go_wp2_with fail
        go_ret2
        exact parPost_no HNO.out HP.out.below
      have hix := fun w => ix_at (s := q) rfl hlt w
      have hge := get_at hlt
      have hc := (q[m]'hlt).toNat_lt
      generalize q[m]'hlt = cm at hix hge hc
      have hmi : (m : Int) < (q.size : Int) := by omega
      have HG := Lib.hid hge
      have HM := Lib.hid hlt
      clear hge hlt
      by_cases h32 : cm.toNat = 32
      rotate_left
      · have k32 : ¬ (cm.toNat : Int) = 32 := by omega
        have hxb : ((cm.toNat : Int) != 32) = true := by simp only [bne_iff_ne, ne_eq]; exact k32
        have HNX := Lib.hid (show q.data.toList[m]? ≠ some 32 by rw [HG.out]; intro h; exact h32 (by rw [Option.some.inj h]; rfl))
        clear h32
        go_wp2_with fail
        go_roundw
        case rel => exact ⟨m + 1, HM.out, by go_num, fun j hj => by rcases Nat.lt_or_ge j m with h | h; exact HA.out j h; rw [show j = m by omega]; exact HNX.out, trivial⟩
        case measure => have := HM.out; simp only [intOf]; omega
      have k32 : (cm.toNat : Int) = 32 := by omega
      have hxb : ((cm.toNat : Int) != 32) = false := by rw [k32]; rfl
      have HST := Lib.hid (show q.data.toList[m]? = some 32 by rw [HG.out, UInt8.toNat_inj.1 (show cm.toNat = (32 : UInt8).toNat from h32)])
      have HMZ := Lib.hid hms
      clear h32 hms
      by_cases h3 : m + 3 ≤ q.size
      rotate_left
      · have HNO := Lib.hid (par_short HP.out HE.out HSZ.out HA.out (.inl HST.out) h3)
        have h3i : (q.size : Int) < (m : Int) + 3 := by omega
        clear h3
        go_wp2_with fail
        go_ret2
        exact parPost_no HNO.out HP.out.below
      have h3i : ¬ (q.size : Int) < (m : Int) + 3 := by omega
      have h3j : (m : Int) + 3 ≤ (q.size : Int) := by omega
      have H3 := Lib.hid h3
      clear h3
      obtain ⟨X, hX⟩ : ∃ X, q.extract m (m + 3) = X := ⟨_, rfl⟩
      have hXl : X.data.toList = (q.data.toList.drop m).take 3 := by
        rw [← hX, extract_toList, List.drop_take, show m + 3 - m = 3 by omega]
      by_cases hse : (q.data.toList.drop m).take 3 = [32, 61, 32]
      rotate_left
      · have HNO := Lib.hid (par_other HP.out HE.out HSZ.out HA.out (.inl HST.out) hse)
        have hse2 : (X.toList == [32, 61, 32]) = false := by rw [ByteArray.toList_eq, hXl]; exact beq_eq_false_iff_ne.2 hse
        clear hse hXl
        go_wp2_with fail
        go_ret2
        exact parPost_no HNO.out HP.out.below
      have hse2 : (X.toList == [32, 61, 32]) = true := by rw [ByteArray.toList_eq, hXl, hse]; rfl
      obtain ⟨nm, hnm⟩ : ∃ nm, q.extract 0 m = nm := ⟨_, rfl⟩
      obtain ⟨r, hr⟩ : ∃ r, q.extract (m + 3) q.size = r := ⟨_, rfl⟩
      have HNM := Lib.hid hnm
      have HR := Lib.hid (show behindB q m = r from hr)
      have HRZ := Lib.hid (show r.size + (m + 3) = q.size by rw [← hr, ByteArray.size_extract]; have := H3.out; omega)
      have hri : (r.size : Int) ≤ 1048576 := by have := HRZ.out; omega
      clear hse hXl
      go_wp2_with fail
      refine (ends_any r (by omega) _).mono ?_
      rintro e w2 ⟨hb, n, rfl, hns, hn⟩
      have HH := Lib.hid (show HeadAt w s q (es.map (fun e : El => e.a)) m n from ⟨HP.out.rest, HE.out, HSZ.out, HA.out, HST.out, by rw [HR.out]; exact hn⟩)
      have P2 := Lib.hid (HP.out.under hb)
      have hni : (n : Int) ≤ (r.size : Int) := by omega
      have HNS := Lib.hid hns
      obtain ⟨vl, hvl⟩ : ∃ vl, r.extract 0 n = vl := ⟨_, rfl⟩
      have HVL := Lib.hid hvl
      have HVZ := Lib.hid (show vl.size ≤ 1048576 by rw [← hvl, ByteArray.size_extract]; omega)
      clear hb hn hns HP HA HST HG hix hc k32 hxb hX hse2 h3i hnm hr hmi
      go_wp2_with fail
      refine (RRead_any nm vl HVZ.out w2).mono ?_
      rintro e w3 ⟨hb, hcase⟩
      have P3 := Lib.hid (P2.out.under hb)
      rcases hcase with ⟨x, v, ai, ci, xo, ct, rfl, hat, hxn, hxr, hxv, hfi, hft⟩ | ⟨hno, x, ai, ci, xo, ct, rfl⟩
      rotate_left
      · have HNO := Lib.hid (HH.out.no (by rw [HNM.out, HR.out, HVL.out]; exact hno))
        clear hno hb
        go_wp2_with fail
        go_ret2
        exact parPost_no HNO.out ((P3.out.below).trans ((alloc_below _ _).mono P3.out.below.size))
      obtain rfl := hat.val
      have hal := alloc_below w3 (.cells #[.string x.name, .int .i64 x.kind, .int .i64 x.num, .string x.text, .slice ai x.ints.length ci, .slice xo x.texts.length ct] 29)
      have T4 := Lib.hid (heap_alloc_new w3 (.cells #[.string x.name, .int .i64 x.kind, .int .i64 x.num, .string x.text, .slice ai x.ints.length ci, .slice xo x.texts.length ct] 29))
      have P4 := Lib.hid (P3.out.under hal)
      have A4 := Lib.hid (hat.below hal)
      have HXN := Lib.hid (show x.name = q.extract 0 m by rw [hxn, HNM.out])
      have HXR := Lib.hid hxr
      have HXV := Lib.hid (show valueL x = ((behindB q m).extract 0 n).data.toList by rw [hxv, HR.out, HVL.out])
      have HFI := Lib.hid hfi
      have HFT := Lib.hid hft
      have HON := Lib.hid (own_lt P2.out.own)
      clear hb hat hxn hxr hxv hfi hft hal P3 hvl
      by_cases hnr : n = r.size
      · have HNO := Lib.hid (HH.out.out (by rw [HR.out]; omega))
        have hnri : (n : Int) = (r.size : Int) := by omega
        clear hnr
        go_wp2_with fail
        go_ret2
        exact parPost_no HNO.out P4.out.below
      have hnl : n < r.size := by have := HNS.out; omega
      have hnri : ¬ (n : Int) = (r.size : Int) := by omega
      have hnb : ((n : Int) == (r.size : Int)) = false := beq_eq_false_iff_ne.2 hnri
      have hnli : (n : Int) < (r.size : Int) := by omega
      have hix := fun w => ix_at (s := r) rfl hnl w
      have hge := get_at hnl
      have hc := (r[n]'hnl).toNat_lt
      generalize r[n]'hnl = cn at hix hge hc
      have HG := Lib.hid hge
      have HNL := Lib.hid hnl
      clear hge hnl hnr
      go_upto_region 20 with fail
      generalize w3.alloc (.cells #[.string x.name, .int .i64 x.kind, .int .i64 x.num, .string x.text, .slice ai x.ints.length ci, .slice xo x.texts.length ct] 29) = w4 at T4 P4 A4 ⊢
      generalize w3.heap.size = D at T4 ⊢
      obtain ⟨y0, y1, y2, y3, y4, y5, yf⟩ := cells6 T4.out
      have HOWN := Lib.hid P4.out.own
      have HB := Lib.hid P4.out.below.size
      have HFEW := Lib.hid (show es.length ≤ 1048576 by have := P4.out.few; omega)
      go_upto_region 21 with (at_builtin; refine wp_append_big (e := ⟨x, ai, ci, xo, ct⟩) rfl _ _ rfl HOWN.out HB.out HFEW.out rfl rfl ?_; intro ao5 c5 w5 hown hbel hfar; have HO5 := Lib.hid hown; have HB5 := Lib.hid hbel; have HF5 := Lib.hid hfar; clear hown hbel hfar)
      have HOK := Lib.hid (P4.out.more HON.out A4.out HFI.out HFT.out HXR.out HB5.out HF5.out)
      have B5 := Lib.hid (P4.out.below.trans HB5.out)
      clear y0 y1 y2 y3 y4 y5 yf HF5 HB5 HFI HFT HON HOWN HB T4
      by_cases h125 : cn.toNat = 125
      rotate_left
      · have k125 : ¬ (cn.toNat : Int) = 125 := by omega
        have k125b : ((cn.toNat : Int) == 125) = false := beq_eq_false_iff_ne.2 k125
        have HCN := Lib.hid (show (behindB q m).data.toList[n]? ≠ some 125 by rw [HR.out, HG.out]; intro h; exact h125 (by rw [Option.some.inj h]; rfl))
        clear h125
        by_cases hn1 : n + 1 < r.size
        rotate_left
        · have HNO := Lib.hid (HH.out.stop HXR.out A4.out.wf HXN.out HXV.out HCN.out (.inl (by rw [HR.out]; exact hn1)))
          have hn1i : (r.size : Int) ≤ (n : Int) + 1 := by omega
          clear hn1
          go_wp2_with fail
          go_ret2
          exact parPost_no HNO.out B5.out
        have hix2 := fun w => ix_at (s := r) (m := n + 1) (z := (n : Int) + 1) (by omega) hn1 w
        have hge2 := get_at hn1
        have hc2 := (r[n + 1]'hn1).toNat_lt
        generalize r[n + 1]'hn1 = c2 at hix2 hge2 hc2
        have HG2 := Lib.hid hge2
        have HN1 := Lib.hid hn1
        have hn1i : ¬ (r.size : Int) ≤ (n : Int) + 1 := by omega
        have hn1j : (n : Int) + 1 < (r.size : Int) := by omega
        have hn2 : (n : Int) + 2 ≤ (r.size : Int) := by omega
        clear hge2 hn1
        by_cases h32 : c2.toNat = 32
        rotate_left
        · have k32 : ¬ (c2.toNat : Int) = 32 := by omega
          have k32b : ((c2.toNat : Int) != 32) = true := by simp only [bne_iff_ne, ne_eq]; exact k32
          have HNO := Lib.hid (HH.out.stop HXR.out A4.out.wf HXN.out HXV.out HCN.out (.inr (by rw [HR.out, HG2.out]; intro h; exact h32 (by rw [Option.some.inj h]; rfl))))
          clear h32
          go_wp2_with fail
          go_ret2
          exact parPost_no HNO.out B5.out
        have k32 : (c2.toNat : Int) = 32 := by omega
        have k32b : ((c2.toNat : Int) != 32) = false := by rw [k32]; rfl
        have HREST := Lib.hid (HH.out.rest_next HXR.out A4.out.wf HXN.out HXV.out HCN.out)
        clear h32
        go_wp2_with fail
        go_roundw
        case rel => exact ⟨_, ao5, c5, es ++ [⟨x, ai, ci, xo, ct⟩], rfl, by rw [List.length_append, List.length_singleton], HO5.out, HOK.out, B5.out, by have h1 := P4.out.few; have h2 := HRZ.out; have h3 := HN1.out; rw [List.length_append, List.length_singleton, ByteArray.size_extract]; omega, by have h := HREST.out; rw [HR.out] at h; rw [List.map_append]; exact h⟩
        case measure => have h2 := HRZ.out; have h3 := HN1.out; simp only [strLen, ByteArray.size_extract]; omega
      have k125 : (cn.toNat : Int) = 125 := by omega
      have HCN := Lib.hid (show (behindB q m).data.toList[n]? = some 125 by rw [HR.out, HG.out, UInt8.toNat_inj.1 (show cn.toNat = (125 : UInt8).toNat from h125)])
      clear h125
      obtain ⟨L, hLd⟩ : ∃ L, L = es.map (fun e : El => e.a) ++ [x] := ⟨_, rfl⟩
      have HLD := Lib.hid hLd
      have hLn : L.length = es.length + 1 := by rw [hLd, List.length_append, List.length_map, List.length_singleton]
      have HLI := Lib.hid (show ListAt w5 ao5 L from by have := (list_of_own HO5.out rfl (fun e he => (HOK.out e he).1)).1; rw [List.map_append] at this; rw [hLd]; exact this)
      have HSH := Lib.hid (show ∀ a ∈ L, Short a from fun a ha => by rw [hLd, ← List.map_singleton (f := fun e : El => e.a) (a := ⟨x, ai, ci, xo, ct⟩), ← List.map_append] at ha; obtain ⟨e, he, rfl⟩ := List.mem_map.1 ha; exact right_short (HOK.out e he).2.2)
      have HWF := Lib.hid (show ∀ a ∈ L, a.Wf from fun a ha => by rw [hLd, ← List.map_singleton (f := fun e : El => e.a) (a := ⟨x, ai, ci, xo, ct⟩), ← List.map_append] at ha; obtain ⟨e, he, rfl⟩ := List.mem_map.1 ha; exact (HOK.out e he).1.wf)
      have HBR := Lib.hid (show ∀ L', Good s L' → L = L' ∧ n + 1 = r.size from fun L' h => by have := HH.out.brace HXR.out A4.out.wf HXN.out HXV.out HCN.out h; rw [HR.out] at this; rw [HLD.out]; exact this)
      have HLN := Lib.hid hLn
      have HEN := Lib.hid (show es.length ≤ 1048576 from HFEW.out)
      have q1 : IntKind.i64.wrap ((r.size : Int) - 1) = (r.size : Int) - 1 := by rw [IntKind.wrap_i64]; have := HNL.out; omega
      clear hLd hLn HLD HOK HXR HXN HXV HH
      go_upto_region 22 with fail
      clear hix
      by_cases hn1 : n + 1 = r.size
      rotate_left
      · have HNO := Lib.hid (show ∀ L', ¬ Good s L' from fun L' h => hn1 (HBR.out L' h).2)
        have e1 : ¬ (n : Int) = (r.size : Int) - 1 := by omega
        have e1b : ((n : Int) == (r.size : Int) - 1) = false := beq_eq_false_iff_ne.2 e1
        clear hn1
        go_wp2_with fail
        go_ret2
        exact parPost_no HNO.out B5.out
      have e1 : (n : Int) = (r.size : Int) - 1 := by omega
      have e1b : ((n : Int) == (r.size : Int) - 1) = true := beq_iff_eq.2 e1
      clear hn1
      have hrl := RRightList_any ao5 L c5 (by have := HLN.out; have := HEN.out; omega) HSH.out w5 HLI.out
      rw [HLN.out] at hrl
      have HRL := Lib.hid hrl
      clear hrl
      go_wp2_with fail
      refine HRL.out.mono ?_
      rintro e w6 ⟨rfl, hb⟩
      have B6 := Lib.hid (B5.out.trans (hb.mono B5.out.size))
      have HL6 := Lib.hid (HLI.out.below hb)
      clear hb HRL
      cases hrl : rightL L with
      | false =>
        have HNO := Lib.hid (show ∀ L', ¬ Good s L' from fun L' h => by have h1 := h.right; rw [← (HBR.out L' h).1, hrl] at h1; cases h1)
        clear hrl
        go_wp2_with fail
        go_ret2
        exact parPost_no HNO.out B6.out
      | true =>
        have HRT := Lib.hid hrl
        clear hrl
        have hpr := RPrint_any ao5 L c5 HRT.out w6 HL6.out
        rw [HLN.out] at hpr
        have HPR := Lib.hid hpr
        clear hpr
        go_wp2_with fail
        refine HPR.out.mono ?_
        rintro e w7 ⟨rfl, hb⟩
        have B7 := Lib.hid (B6.out.trans (hb.mono B6.out.size))
        have HL7 := Lib.hid (HL6.out.below hb)
        clear hb HPR
        by_cases ht : listL L = s.data.toList
        · have HGD := Lib.hid (show Good s L from ⟨HRT.out, HWF.out, ht⟩)
          have hbe : (listL L == s.toList) = true := bytes_beq rfl ht
          clear ht
          go_wp2_with fail
          go_ret2
          exact parPost_yes HLN.out.symm HL7.out HGD.out B7.out
        · have HNO := Lib.hid (show ∀ L', ¬ Good s L' from fun L' h => ht (by rw [(HBR.out L' h).1]; exact h.text))
          have hbe : (listL L == s.toList) = false := bytes_bne rfl ht
          clear ht
          go_wp2_with fail
          go_ret2
          exact parPost_no HNO.out B7.out
end Go.Proofs.YtiofnjnaleglgaaGreatDoor

/-
  The law AttrsParses by the calls' contracts.
-/
namespace Go.Proofs.YtiofnjnaleglgaaGreatDoor
open Go.RowKit

theorem list_wf {w : World} {so : Option Addr} {l : List At} (h : ListAt w so l) : ∀ a ∈ l, a.Wf := fun a ha => by
  obtain ⟨j, hj, rfl⟩ := nth_mem ha
  rcases h with h | ⟨bk, o, _, hc⟩
  · rw [h] at hj; exact absurd hj (Nat.not_lt_zero _)
  · obtain ⟨_, _, _, _, h⟩ := hc j hj
    exact h.wf
theorem short1 {H : Type} {s : ByteArray} (hk : Rows.uptoSmall H [.lit (.string s.data.toList)] = true) : s.size ≤ 1048576 := by
  have h : Rows.uptoBulkAll [DataW.lit (H := H) (.string s.data.toList)] ≤ 1048576 := of_decide_eq_true hk
  simp only [Rows.uptoBulkAll, Rows.uptoBulk] at h
  rw [size_eq]
  omega

set_option maxHeartbeats 4000000 in
set_option maxRecDepth 100000 in
theorem AttrsParses_any (s : ByteArray) (hs : s.size ≤ 1048576) (w : World) (hE : Env w) :
    Calls Tryz.prog 10 #[.string s] w fun e w' => e = .returned (.bool true) ∧ Below w.heap.size w w' := by
  have HE := Lib.hid hE
  have HSZ := Lib.hid hs
  clear hE hs
  go_enter Tryz.func10, Tryz.ntmps10
  go_wp2_with fail
  refine (Parse_any s (by have := HSZ.out; omega) _ HE.out).mono ?_
  rintro e w1 ⟨hb, (⟨L, ao, c, rfl, hl, hc, hr, ht, hu⟩ | ⟨rfl, hno⟩)⟩
  · have B1 := Lib.hid hb
    have HL := Lib.hid hl
    have HG := Lib.hid (show Good s L from ⟨hr, list_wf hl, ht⟩)
    have HU := Lib.hid hu
    have HN := Lib.hid (show L.length ≤ 1000000 by have := ((rightL_iff L).1 hr).1; omega)
    clear hb hl hc hr ht hu
    go_wp2_with fail
    refine (RParse_any s HSZ.out w1 (HE.out.below B1.out)).mono ?_
    rintro e w2 ⟨hb, (⟨L2, ao2, c2, rfl, hl2, hg2⟩ | ⟨ao2, n2, c2, rfl, hno⟩)⟩
    · have B2 := Lib.hid (B1.out.trans (hb.mono B1.out.size))
      have HL1 := Lib.hid (HL.out.below hb)
      have HL2 := Lib.hid hl2
      obtain rfl := HU.out L2 hg2
      clear hb hl2 hg2
      go_wp2_with fail
      refine (equalLists_same ao ao2 L c c2 HN.out w2 HL1.out HL2.out).mono ?_
      rintro e w3 ⟨rfl, hb⟩
      have B3 := Lib.hid (B2.out.trans (hb.mono B2.out.size))
      clear hb
      go_wp2_with fail
      refine (awake2_any _ (HE.out.below B3.out)).mono ?_
      rintro e wz ⟨rfl, hb⟩
      have BZ := Lib.hid (B3.out.trans (hb.mono B3.out.size))
      clear hb
      go_wp2_with fail
      go_ret
      exact ⟨rfl, BZ.out⟩
    · exact absurd HG.out (hno L)
  · have B1 := Lib.hid hb
    have HNO := Lib.hid hno
    clear hb hno
    go_wp2_with fail
    refine (RParse_any s HSZ.out w1 (HE.out.below B1.out)).mono ?_
    rintro e w2 ⟨hb, (⟨L2, ao2, c2, rfl, hl2, hg2⟩ | ⟨ao2, n2, c2, rfl, hno⟩)⟩
    · exact absurd hg2 (HNO.out L2)
    · have B2 := Lib.hid (B1.out.trans (hb.mono B1.out.size))
      clear hb hno
      go_wp2_with fail
      refine (awake2_any _ (HE.out.below B2.out)).mono ?_
      rintro e wz ⟨rfl, hb⟩
      have BZ := Lib.hid (B2.out.trans (hb.mono B2.out.size))
      clear hb
      go_wp2_with fail
      go_ret
      exact ⟨rfl, BZ.out⟩
end Go.Proofs.YtiofnjnaleglgaaGreatDoor
