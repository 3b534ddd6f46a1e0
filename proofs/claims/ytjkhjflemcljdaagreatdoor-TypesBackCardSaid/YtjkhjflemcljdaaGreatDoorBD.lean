/-
  The law 'TypesMakes': it answers true, whatever its arguments are.
-/
import Derived.Test.YtjkhjflemcljdaaGreatDoorBC
import Derived.Test.YtjkhjflemcljdaaGreatDoorR
namespace Go.Proofs.YtjkhjflemcljdaaGreatDoor
open Go.RowKit

theorem exts_of {zs : List Int} (h3 : zs.length ≤ 3) (hr : ∀ x ∈ zs, 0 ≤ x ∧ x ≤ 1000) :
    ∃ z0 z1 z2 : Ext, ext3 zs.length z0 z1 z2 = zs ∧ (zs.length < 1 → z0.1 = 0) ∧ (zs.length < 2 → z1.1 = 0) ∧ (zs.length < 3 → z2.1 = 0) := by
  have o : (0 : Int) ≤ 0 ∧ (0 : Int) ≤ 1000 := by omega
  match zs, h3, hr with
  | [], _, _ => exact ⟨⟨0, o⟩, ⟨0, o⟩, ⟨0, o⟩, rfl, fun _ => rfl, fun _ => rfl, fun _ => rfl⟩
  | [a], _, hr => exact ⟨⟨a, hr a (by simp)⟩, ⟨0, o⟩, ⟨0, o⟩, rfl, fun h => absurd h (by simp), fun _ => rfl, fun _ => rfl⟩
  | [a, b], _, hr => exact ⟨⟨a, hr a (by simp)⟩, ⟨b, hr b (by simp)⟩, ⟨0, o⟩, rfl, fun h => absurd h (by simp), fun h => absurd h (by simp), fun _ => rfl⟩
  | [a, b, c], _, hr => exact ⟨⟨a, hr a (by simp)⟩, ⟨b, hr b (by simp)⟩, ⟨c, hr c (by simp)⟩, rfl, fun h => absurd h (by simp), fun h => absurd h (by simp), fun h => absurd h (by simp)⟩

theorem bad_ext {zs : List Int} (hr : ¬ ∀ x ∈ zs, 0 ≤ x ∧ x ≤ 1000) : ∃ j, j < zs.length ∧ ¬ (0 ≤ zs[j]?.getD 0 ∧ zs[j]?.getD 0 ≤ 1000) := by
  refine Classical.byContradiction fun h => hr fun x hx => Classical.byContradiction fun hb => h ?_
  obtain ⟨j, hj, rfl⟩ := List.mem_iff_getElem.1 hx
  exact ⟨j, hj, by rw [List.getElem?_eq_getElem hj]; exact hb⟩

def MakesPost (r : Int × List UInt8) (w : World) (e : Ending) (w' : World) : Prop := e = .returned (.tuple #[.string ⟨r.2.toArray⟩, .int .i64 r.1]) ∧ Below w.heap.size w w'

/-- The program's 'Make' and the reference's answer the same. -/
theorem Make_both (k : Int) (ao : Option Addr) (zs : List Int) (c : Nat) (el : ByteArray) : ∃ r : Int × List UInt8, ∀ w, IntsAt w ao zs →
    (Env w → Calls Tryz.prog 25 #[.int .i64 k, .slice ao zs.length c, .string el] w (MakesPost r w)) ∧ Calls Tryz.prog 22 #[.int .i64 k, .slice ao zs.length c, .string el] w (MakesPost r w) := by
  by_cases hk : k = 2 ∨ k = 3
  · by_cases h3 : 3 < zs.length
    · exact ⟨(1, []), fun w _ => ⟨fun _ => Make_long k hk ao _ c h3 el w, (MakeR_long k hk ao _ c h3 el w).mono fun e w' ⟨he, hw⟩ => ⟨he, hw ▸ Below.refl _ _⟩⟩⟩
    · by_cases hr : ∀ x ∈ zs, 0 ≤ x ∧ x ≤ 1000
      · obtain ⟨z0, z1, z2, he, h0, h1, h2⟩ := exts_of (by omega) hr
        refine ⟨makeL k zs el.data.toList, fun w hz => ⟨fun hE => ?_, MakeR_rest k hk ao zs c (by omega) hr el w hz⟩⟩
        have h := Make_rest w k hk ao zs.length c (by omega) z0 z1 z2 (by rw [he]; exact hz) h0 h1 h2 el hE
        rw [makeL_rest k (by omega), he] at h
        exact h
      · exact ⟨(1, []), fun w hz => ⟨fun _ => Make_range k hk ao zs c (by omega) (bad_ext hr) el w hz, (MakeR_range k hk ao zs c (by omega) (bad_ext hr) el w hz).mono fun e w' ⟨he, hw⟩ => ⟨he, hw ▸ Below.refl _ _⟩⟩⟩
  · exact ⟨(1, []), fun w _ => ⟨fun _ => Make_kind k hk ao _ c el w, (MakeR_kind k hk ao _ c el w).mono fun e w' ⟨he, hw⟩ => ⟨he, hw ▸ Below.refl _ _⟩⟩⟩

set_option maxHeartbeats 4000000 in
set_option maxRecDepth 100000 in
theorem TypesMakes_any (k : Int) (ao : Option Addr) (zs : List Int) (c : Nat) (el : ByteArray) (w : World) (hz : IntsAt w ao zs) (hE : Env w) :
    Calls Tryz.prog 5 #[.int .i64 k, .slice ao zs.length c, .string el] w fun e w' => e = .returned (.bool true) ∧ Below w.heap.size w w' := by
  have Hz := Lib.hid hz
  have HE := Lib.hid hE
  clear hz hE
  go_enter Tryz.func5, Tryz.ntmps5
  go_wp2_with fail
  go_loopw [0, 1, 7] (fun k s r wr => ∃ (K : Int) (b : Option Addr) (ys : List Int) (d m : Nat), m ≤ 2 ∧ k = .int .i64 K ∧ s = .slice b ys.length d ∧ r = .int .i64 m ∧ Hid (IntsAt wr b ys ∧ Below w.heap.size w wr)) (fun _ _ r _ => 2 - (intOf r).toNat)
  case atStart => exact ⟨k, ao, zs, c, 0, by omega, rfl, rfl, rfl, Hz.out, Below.refl _ _⟩
  case round =>
    obtain ⟨K, b, ys, d, m, hm, rfl, rfl, rfl, HS⟩ := hrel
    by_cases hlt : m < 2
    · obtain ⟨r, hr⟩ := Make_both K b ys d el
      have HR := Lib.hid hr
      clear hr
      go_wp2_with fail
      refine ((HR.out _ HS.out.1).1 (HE.out.below HS.out.2)).mono ?_
      rintro e w1 ⟨rfl, hb1⟩
      have S1 := Lib.hid (And.intro (HS.out.1.below hb1) (HS.out.2.trans (hb1.mono HS.out.2.size)))
      clear hb1
      go_wp2_with fail
      refine (HR.out _ S1.out.1).2.mono ?_
      rintro e w2 ⟨rfl, hb2⟩
      have S2 := Lib.hid (And.intro (S1.out.1.below hb2) (S1.out.2.trans (hb2.mono S1.out.2.size)))
      clear hb2
      go_wp2_with fail
      go_loopw [12, 13] (fun l i wx => ∃ (ao' : Option Addr) (c' : Nat) (es : List Int), es.length ≤ 3 ∧ es.length ≤ ys.length ∧ l = .slice ao' es.length c' ∧ i = .int .i64 es.length ∧
        Hid (wx.ownsRow w2.heap.size 3 1 (.slice ao' es.length c') es.length (es.map (.int .i64)) ∧ Below w2.heap.size w2 wx)) (fun _ i _ => 3 - (intOf i).toNat)
      case atStart => exact ⟨none, 0, [], by simp, by simp, rfl, rfl, ⟨rfl, .inl ⟨rfl, rfl⟩⟩, Below.refl _ _⟩
      case round =>
        obtain ⟨ao', c', es, h3, hjy, rfl, rfl, HO⟩ := hrel
        by_cases g1 : es.length < ys.length
        · by_cases g2 : es.length < 3
          · rcases S2.out.1.below HO.out.2 with h0 | ⟨a, rfl, hc⟩
            · rw [h0] at g1
              exact absurd g1 (Nat.not_lt_zero _)
            have hcm := hc es.length g1
            clear hc
            obtain ⟨z, hz⟩ : ∃ z, z = ys[es.length]?.getD 0 := ⟨_, rfl⟩
            rw [← hz] at hcm
            clear hz
            go_wp2_with (at_builtin; refine wp_append_int rfl _ _ rfl HO.out.1 HO.out.2.size h3 rfl rfl ?_; intro ao2 c2 w3 hown hbel; have HOWN := Lib.hid hown; have HBEL := Lib.hid hbel; clear hown hbel)
            go_roundw
            case rel => exact ⟨ao2, c2, es ++ [_], by simp; omega, by simp; omega, by rw [List.length_append, List.length_singleton], by rw [List.length_append, List.length_singleton]; go_num, HOWN.out, HO.out.2.trans HBEL.out⟩
            case measure => simp [intOf]; omega
          · have g2' : ¬ ((es.length : Int) < 3) := by omega
            go_wp2_with fail
            go_roundw
            case rel => exact ⟨_, ao', es, c', m + 1, by omega, rfl, rfl, by go_num, own_ints HO.out.1 rfl, S2.out.2.trans (HO.out.2.mono S2.out.2.size)⟩
            case measure => simp [intOf]; omega
        · go_wp2_with fail
          go_roundw
          case rel => exact ⟨_, ao', es, c', m + 1, by omega, rfl, rfl, by go_num, own_ints HO.out.1 rfl, S2.out.2.trans (HO.out.2.mono S2.out.2.size)⟩
          case measure => simp [intOf]; omega
    · obtain rfl : m = 2 := by omega
      go_wp2_with fail
      refine (awake_any _ (HE.out.below HS.out.2)).mono ?_
      rintro e w6 ⟨rfl, hb6⟩
      have B6 := Lib.hid (HS.out.2.trans (hb6.mono HS.out.2.size))
      clear hb6
      go_wp2_with fail
      go_ret
      exact ⟨rfl, B6.out⟩
end Go.Proofs.YtjkhjflemcljdaaGreatDoor
