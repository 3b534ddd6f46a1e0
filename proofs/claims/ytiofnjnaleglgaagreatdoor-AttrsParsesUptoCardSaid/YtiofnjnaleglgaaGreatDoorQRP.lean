/-
  Texts of mine in one file: KAtRP.
-/
import Derived.Test.YtiofnjnaleglgaaGreatDoorQA
import Derived.Test.YtiofnjnaleglgaaGreatDoorG32
import Derived.Deep.RegionHeld3
import Derived.Deep.Cut
import Derived.Deep.DeepCutAuto
import Derived.BigRegion
/-
  The reference's 'Print' of a right list by its contract.
-/
namespace Go.Proofs.YtiofnjnaleglgaaGreatDoor
open Go.RowKit

theorem add_big {x y z : List UInt8} (hz : z = x ++ y) (hx : x.length ≤ 1000000000000) (hy : y.length ≤ 1000000000000) (w : World) : (Op.stringOp .add ⟨x.toArray⟩ ⟨y.toArray⟩).run Tryz.prog w = .ok (.string ⟨z.toArray⟩) w := by
  rw [hz]
  exact add_lists x y (by omega) (by omega) w
/-- An attribute lies behind an address. -/
def PrS (V : World) (bk p : Nat) (v0 v1 v2 v3 v4 v5 : Value) (w' : World) : Prop := w'.cell? ⟨bk, p, none⟩ = some v0 ∧ w'.cell? ⟨bk, p + 1, none⟩ = some v1 ∧ w'.cell? ⟨bk, p + 2, none⟩ = some v2 ∧ w'.cell? ⟨bk, p + 3, none⟩ = some v3 ∧ w'.cell? ⟨bk, p + 4, none⟩ = some v4 ∧ w'.cell? ⟨bk, p + 5, none⟩ = some v5 ∧ Hid (Below V.heap.size V w')
section
variable {V : World} {bk p : Nat} {v0 v1 v2 v3 v4 v5 : Value}
theorem PrS.step {X Y : World} (h : PrS V bk p v0 v1 v2 v3 v4 v5 X) (hb : Below X.heap.size X Y) : PrS V bk p v0 v1 v2 v3 v4 v5 Y := by
  obtain ⟨h0, h1, h2, h3, h4, h5, hB⟩ := h
  have hc : ∀ {x : Addr} {v : Value}, X.cell? x = some v → Y.cell? x = some v := fun hx => (hb.cell (block_lt_of_cell hx)).trans hx
  exact ⟨hc h0, hc h1, hc h2, hc h3, hc h4, hc h5, hB.out.trans (hb.mono hB.out.size)⟩
theorem PrS.below {X : World} (h : PrS V bk p v0 v1 v2 v3 v4 v5 X) : Below V.heap.size V X := h.2.2.2.2.2.2
end
theorem list_of_pre {l : List At} (h0 : l ≠ []) : preL l l.length ++ [125] = listL l := by
  unfold listL preL bodyL
  rw [if_neg h0, List.take_length, List.cons_append]

set_option maxHeartbeats 4000000 in
set_option maxRecDepth 100000 in
theorem RPrint_any (so : Option Addr) (l : List At) (c : Nat) (hr : rightL l = true) (w : World) (hl : ListAt w so l) :
    Calls Tryz.prog 30 #[.slice so l.length c] w fun e w' => e = .returned (.string ⟨(listL l).toArray⟩) ∧ Below w.heap.size w w' := by
  have HR := Lib.hid hr
  have h100 := ((rightL_iff l).1 hr).1
  clear hr
  by_cases h0 : l = []
  · subst h0
    go_enter Tryz.func30, Tryz.ntmps30
    go_wp2_with fail
    go_ret
    exact ⟨rfl, Below.refl _ _⟩
  rcases hl with h | ⟨bk, o, rfl, hc⟩
  · exact absurd h h0
  have HC := Lib.hid hc
  have HWF := Lib.hid (show ∀ a ∈ l, rightB a = true ∧ a.Wf from fun a ha => ⟨rightL_all HR.out a ha, by
    obtain ⟨j, hj, rfl⟩ := nth_mem ha
    obtain ⟨_, _, _, _, h⟩ := hc j hj
    exact h.wf⟩)
  clear hc
  have hz1 : ¬ l.length = 0 := fun e => h0 (List.eq_nil_of_length_eq_zero e)
  have hz2 : ¬ (l.length : Int) = 0 := by omega
  have hz3 : ((l.length : Int) == 0) = false := by simpa using hz1
  have HO := Lib.hid (list_of_pre h0)
  have HP0 := Lib.hid (show preL l 0 = [123] from rfl)
  clear h0
  go_enter Tryz.func30, Tryz.ntmps30
  go_wp2_with fail
  go_loopw [3, 4] (fun s i wr => ∃ q : Nat, q ≤ l.length ∧ i = .int .i64 q ∧ s = .string ⟨(preL l q).toArray⟩ ∧ Hid (Below w.heap.size w wr)) (fun _ i _ => l.length - (intOf i).toNat)
  case atStart => exact ⟨0, Nat.zero_le _, rfl, rfl, Below.refl _ _⟩
  case round =>
    obtain ⟨q, hq, rfl, rfl, HB⟩ := hrel
    have HLEN := Lib.hid (preL_len HWF.out (by omega) q)
    by_cases hlt : q < l.length
    · have hqi : (q : Int) < (l.length : Int) := by omega
      obtain ⟨ai, ci, ao, ct, hel⟩ := HC.out q hlt
      have HEL := Lib.hid (hel.below HB.out)
      have HA := Lib.hid (HWF.out (nth l q) (by rw [nth_get hlt]; exact List.getElem_mem hlt))
      have HP1 := Lib.hid (fun (h : q = 0) => show preL l (q + 1) = preL l q ++ itemL (nth l q) by subst h; exact preL_first hlt)
      have HP2 := Lib.hid (fun (h : 0 < q) => preL_next hlt h)
      clear hel
      generalize nth l q = a at HEL HA HP1 HP2
      have NS := Lib.hid (show a.name.data.toList.length ≤ 60 from name_size (right_cases HA.out.1).1)
      have VS := Lib.hid (value_len HA.out.1 HA.out.2)
      by_cases hq0 : q = 0
      · have NEXT := Lib.hid (HP1.out hq0)
        have LPL := HLEN
        have hx : ¬ (0 : Int) < (q : Int) := by omega
        clear HLEN hq0
        go_upto_region 9 with fail
        generalize preL l q = PL at LPL NEXT ⊢
        obtain ⟨N, hN⟩ : ∃ N : List UInt8, N = a.name.data.toList := ⟨_, rfl⟩
        have hnm : a.name = ⟨N.toArray⟩ := bytes_eq hN.symm
        obtain ⟨V, hV⟩ : ∃ V, V = valueL a := ⟨_, rfl⟩
        obtain ⟨A1, hA1⟩ : ∃ A1, A1 = PL ++ N := ⟨_, rfl⟩
        obtain ⟨A2, hA2⟩ : ∃ A2, A2 = A1 ++ [32, 61, 32] := ⟨_, rfl⟩
        have hn60 : N.length ≤ 60 := by rw [hN]; exact NS.out
        have hv60 : V.length ≤ 100000 := by rw [hV]; exact VS.out
        have hl1 : A1.length ≤ 300000000 := by rw [hA1, List.length_append]; have := LPL.out; omega
        have hl2 : A2.length ≤ 400000000 := by rw [hA2, List.length_append]; show _ + 3 ≤ _; omega
        have hadd1 := fun w => add_big hA1 (by have := LPL.out; omega) (by omega) w
        have hadd2 := fun w => add_big hA2 (by omega) (by decide) w
        have hadd3 := fun w => add_big (show preL l (q + 1) = A2 ++ V by rw [NEXT.out, hA2, hA1, hN, hV]; unfold itemL; simp only [List.append_assoc]) (by omega) (by omega) w
        have HNM := Lib.hid hnm
        have HV := Lib.hid hV
        clear hnm hV hN hA1 hA2 hn60 hv60 hl1 hl2
        have hS : PrS wr bk (o + q * 6) (.string a.name) (.int .i64 a.kind) (.int .i64 a.num) (.string a.text) (.slice ai a.ints.length ci) (.slice ao a.texts.length ct) wr := ⟨HEL.out.c0, HEL.out.c1, HEL.out.c2, HEL.out.c3, HEL.out.c4, HEL.out.c5, Below.refl _ _⟩
        have HSD := hS.step (Below.refl wr.heap.size wr).drew
        have HVA := Lib.hid (show ∀ X, (X.cell? ⟨bk, o + q * 6, none⟩ = some (.string a.name) ∧ X.cell? ⟨bk, o + q * 6 + 1, none⟩ = some (.int .i64 a.kind) ∧ X.cell? ⟨bk, o + q * 6 + 2, none⟩ = some (.int .i64 a.num) ∧ X.cell? ⟨bk, o + q * 6 + 3, none⟩ = some (.string a.text) ∧ X.cell? ⟨bk, o + q * 6 + 4, none⟩ = some (.slice ai a.ints.length ci) ∧ X.cell? ⟨bk, o + q * 6 + 5, none⟩ = some (.slice ao a.texts.length ct) ∧ Hid (Below wr.heap.size wr X)) → Calls Tryz.prog 32 #[.agg #[.string a.name, .int .i64 a.kind, .int .i64 a.num, .string a.text, .slice ai a.ints.length ci, .slice ao a.texts.length ct]] X (fun e w' => e = .returned (.string ⟨V.toArray⟩) ∧ Below X.heap.size X w') from fun X h => by
          rw [HV.out]
          exact RValue_any a _ ai ci ao ct HA.out.1 X (HEL.out.att.below (PrS.below (V := wr) (bk := bk) (p := o + q * 6) h)))
        have HFIN := Lib.hid (show ∀ X, (X.cell? ⟨bk, o + q * 6, none⟩ = some (.string a.name) ∧ X.cell? ⟨bk, o + q * 6 + 1, none⟩ = some (.int .i64 a.kind) ∧ X.cell? ⟨bk, o + q * 6 + 2, none⟩ = some (.int .i64 a.num) ∧ X.cell? ⟨bk, o + q * 6 + 3, none⟩ = some (.string a.text) ∧ X.cell? ⟨bk, o + q * 6 + 4, none⟩ = some (.slice ai a.ints.length ci) ∧ X.cell? ⟨bk, o + q * 6 + 5, none⟩ = some (.slice ao a.texts.length ct) ∧ Hid (Below wr.heap.size wr X)) → Below w.heap.size w X from fun X h => HB.out.trans ((PrS.below (V := wr) (bk := bk) (p := o + q * 6) h).mono HB.out.size))
        clear hS HEL HA HP1 HP2 NS VS HB
        rw [HNM.out] at HSD HVA HFIN
        generalize a.ints.length = la at HSD HVA HFIN
        generalize a.texts.length = ma at HSD HVA HFIN
        generalize a.kind = ka at HSD HVA HFIN
        generalize a.num = za at HSD HVA HFIN
        generalize a.text = ta at HSD HVA HFIN
        go_region_held3 (fun w' => w'.cell? ⟨bk, o + q * 6, none⟩ = some (.string ⟨N.toArray⟩) ∧ w'.cell? ⟨bk, o + q * 6 + 1, none⟩ = some (.int .i64 ka) ∧ w'.cell? ⟨bk, o + q * 6 + 2, none⟩ = some (.int .i64 za) ∧ w'.cell? ⟨bk, o + q * 6 + 3, none⟩ = some (.string ta) ∧ w'.cell? ⟨bk, o + q * 6 + 4, none⟩ = some (.slice ai la ci) ∧ w'.cell? ⟨bk, o + q * 6 + 5, none⟩ = some (.slice ao ma ct) ∧ Hid (Below wr.heap.size wr w')) (first | exact HSD | assumption | exact PrS.step (V := wr) (bk := bk) (p := o + q * 6) (by assumption) (by assumption)) (
            (first
              | (go_at_call 32; with_reducible refine (HVA.out _ (by assumption)).mono ?_; rintro e w' ⟨rfl, hb⟩)))
        go_wp2_with fail
        go_roundw
        case rel => exact ⟨q + 1, by omega, by go_num, rfl, HFIN.out _ (by assumption)⟩
        case measure => simp only [intOf]; omega
      · have NEXT := Lib.hid (HP2.out (by omega))
        have hx : (0 : Int) < (q : Int) := by omega
        obtain ⟨PL, hPL⟩ : ∃ PL, PL = preL l q ++ gap := ⟨_, rfl⟩
        rw [← hPL] at NEXT
        have LPL := Lib.hid (show PL.length ≤ 200003002 by have := HLEN.out; rw [hPL, List.length_append]; show _ + 2 ≤ _; omega)
        have hadd0 := fun w => add_big hPL (by have := HLEN.out; omega) (by decide) w
        clear HLEN hq0 hPL
        go_upto_region 9 with fail
        obtain ⟨N, hN⟩ : ∃ N : List UInt8, N = a.name.data.toList := ⟨_, rfl⟩
        have hnm : a.name = ⟨N.toArray⟩ := bytes_eq hN.symm
        obtain ⟨V, hV⟩ : ∃ V, V = valueL a := ⟨_, rfl⟩
        obtain ⟨A1, hA1⟩ : ∃ A1, A1 = PL ++ N := ⟨_, rfl⟩
        obtain ⟨A2, hA2⟩ : ∃ A2, A2 = A1 ++ [32, 61, 32] := ⟨_, rfl⟩
        have hn60 : N.length ≤ 60 := by rw [hN]; exact NS.out
        have hv60 : V.length ≤ 100000 := by rw [hV]; exact VS.out
        have hl1 : A1.length ≤ 300000000 := by rw [hA1, List.length_append]; have := LPL.out; omega
        have hl2 : A2.length ≤ 400000000 := by rw [hA2, List.length_append]; show _ + 3 ≤ _; omega
        have hadd1 := fun w => add_big hA1 (by have := LPL.out; omega) (by omega) w
        have hadd2 := fun w => add_big hA2 (by omega) (by decide) w
        have hadd3 := fun w => add_big (show preL l (q + 1) = A2 ++ V by rw [NEXT.out, hA2, hA1, hN, hV]; unfold itemL; simp only [List.append_assoc]) (by omega) (by omega) w
        have HNM := Lib.hid hnm
        have HV := Lib.hid hV
        clear hnm hV hN hA1 hA2 hn60 hv60 hl1 hl2
        have hS : PrS wr bk (o + q * 6) (.string a.name) (.int .i64 a.kind) (.int .i64 a.num) (.string a.text) (.slice ai a.ints.length ci) (.slice ao a.texts.length ct) wr := ⟨HEL.out.c0, HEL.out.c1, HEL.out.c2, HEL.out.c3, HEL.out.c4, HEL.out.c5, Below.refl _ _⟩
        have HSD := hS.step (Below.refl wr.heap.size wr).drew
        have HVA := Lib.hid (show ∀ X, (X.cell? ⟨bk, o + q * 6, none⟩ = some (.string a.name) ∧ X.cell? ⟨bk, o + q * 6 + 1, none⟩ = some (.int .i64 a.kind) ∧ X.cell? ⟨bk, o + q * 6 + 2, none⟩ = some (.int .i64 a.num) ∧ X.cell? ⟨bk, o + q * 6 + 3, none⟩ = some (.string a.text) ∧ X.cell? ⟨bk, o + q * 6 + 4, none⟩ = some (.slice ai a.ints.length ci) ∧ X.cell? ⟨bk, o + q * 6 + 5, none⟩ = some (.slice ao a.texts.length ct) ∧ Hid (Below wr.heap.size wr X)) → Calls Tryz.prog 32 #[.agg #[.string a.name, .int .i64 a.kind, .int .i64 a.num, .string a.text, .slice ai a.ints.length ci, .slice ao a.texts.length ct]] X (fun e w' => e = .returned (.string ⟨V.toArray⟩) ∧ Below X.heap.size X w') from fun X h => by
          rw [HV.out]
          exact RValue_any a _ ai ci ao ct HA.out.1 X (HEL.out.att.below (PrS.below (V := wr) (bk := bk) (p := o + q * 6) h)))
        have HFIN := Lib.hid (show ∀ X, (X.cell? ⟨bk, o + q * 6, none⟩ = some (.string a.name) ∧ X.cell? ⟨bk, o + q * 6 + 1, none⟩ = some (.int .i64 a.kind) ∧ X.cell? ⟨bk, o + q * 6 + 2, none⟩ = some (.int .i64 a.num) ∧ X.cell? ⟨bk, o + q * 6 + 3, none⟩ = some (.string a.text) ∧ X.cell? ⟨bk, o + q * 6 + 4, none⟩ = some (.slice ai a.ints.length ci) ∧ X.cell? ⟨bk, o + q * 6 + 5, none⟩ = some (.slice ao a.texts.length ct) ∧ Hid (Below wr.heap.size wr X)) → Below w.heap.size w X from fun X h => HB.out.trans ((PrS.below (V := wr) (bk := bk) (p := o + q * 6) h).mono HB.out.size))
        clear hS HEL HA HP1 HP2 NS VS HB
        rw [HNM.out] at HSD HVA HFIN
        generalize a.ints.length = la at HSD HVA HFIN
        generalize a.texts.length = ma at HSD HVA HFIN
        generalize a.kind = ka at HSD HVA HFIN
        generalize a.num = za at HSD HVA HFIN
        generalize a.text = ta at HSD HVA HFIN
        go_region_held3 (fun w' => w'.cell? ⟨bk, o + q * 6, none⟩ = some (.string ⟨N.toArray⟩) ∧ w'.cell? ⟨bk, o + q * 6 + 1, none⟩ = some (.int .i64 ka) ∧ w'.cell? ⟨bk, o + q * 6 + 2, none⟩ = some (.int .i64 za) ∧ w'.cell? ⟨bk, o + q * 6 + 3, none⟩ = some (.string ta) ∧ w'.cell? ⟨bk, o + q * 6 + 4, none⟩ = some (.slice ai la ci) ∧ w'.cell? ⟨bk, o + q * 6 + 5, none⟩ = some (.slice ao ma ct) ∧ Hid (Below wr.heap.size wr w')) (first | exact HSD | assumption | exact PrS.step (V := wr) (bk := bk) (p := o + q * 6) (by assumption) (by assumption)) (
            (first
              | (go_at_call 32; with_reducible refine (HVA.out _ (by assumption)).mono ?_; rintro e w' ⟨rfl, hb⟩)))
        go_wp2_with fail
        go_roundw
        case rel => exact ⟨q + 1, by omega, by go_num, rfl, HFIN.out _ (by assumption)⟩
        case measure => simp only [intOf]; omega
    · obtain rfl : q = l.length := by omega
      have hadd := fun w => add_big HO.out.symm (by have := HLEN.out; omega) (by decide) w
      go_wp2_with fail
      go_ret
      exact ⟨rfl, HB.out⟩
end Go.Proofs.YtiofnjnaleglgaaGreatDoor
