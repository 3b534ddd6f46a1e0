/-
  The law 'TypesBack': it answers true, whatever its arguments are.
-/
import Derived.Test.YtjkhjflemcljdaaGreatDoorJB
import Derived.Test.YtjkhjflemcljdaaGreatDoorJC
import Derived.Test.YtjkhjflemcljdaaGreatDoorBD
namespace Go.Proofs.YtjkhjflemcljdaaGreatDoor
open Go.RowKit

/-- The string of a memory or array type with these extents. -/
def textL (k : Int) (zs : List Int) (el : List UInt8) : List UInt8 := textHead k ++ zs.flatMap (fun x => Lib.itoa x ++ [120]) ++ el ++ [62]
theorem makeL_text {k : Int} {zs : List Int} {el : List UInt8} (hn : numB el = true) (hp : prodL zs ≤ 4096) : makeL k zs el = (0, textL k zs el) := by
  rw [makeL, if_neg (by rw [hn]; simp), if_neg (by omega)]
  rfl
theorem textL_spec {k : Int} {zs : List Int} {x0 x1 x2 : Int} {el : List UInt8} (h3 : zs.length ≤ 3) (ht : [x0, x1, x2].take zs.length = zs) (h0 : 0 ≤ x0 ∧ x0 ≤ 1000) (h1 : 0 ≤ x1 ∧ x1 ≤ 1000) (h2 : 0 ≤ x2 ∧ x2 ≤ 1000) (hn : numB el = true) (hp : prodL zs ≤ 4096) :
    textSpec k zs.length ⟨x0, h0⟩ ⟨x1, h1⟩ ⟨x2, h2⟩ el = textL k zs el := by
  have hpp : prodN zs.length x0 x1 x2 ≤ 4096 := by rw [← prodL_take h3, ht]; exact hp
  have a := made_text (k := k) h3 h0 h1 h2 hn hpp
  rw [ht, makeL_text hn hp] at a
  injection a with _ a
  exact a.symm
theorem textL_head {k : Int} (hk : k = 2 ∨ k = 3) (zs : List Int) (el : List UInt8) : (textL k zs el).head? = some (if k = 2 then 109 else 97) := by
  rcases hk with rfl | rfl <;> rfl
theorem textL_ne {k : Int} (hk : k = 2 ∨ k = 3) (zs : List Int) (el : List UInt8) : textL (5 - k) zs el ≠ textL k zs el := by
  intro e
  have h := congrArg List.head? e
  rw [textL_head (by omega), textL_head hk] at h
  rcases hk with rfl | rfl <;> exact absurd h (by decide)

/-- What the program's 'Make' answers for a number type. -/
theorem Make_says (k : Int) (hk : k = 2 ∨ k = 3) (ao : Option Addr) (zs : List Int) (c : Nat) (el : ByteArray) (hnum : numB el.data.toList = true) : ∃ (n : Int) (t : List UInt8),
    (∀ w, IntsAt w ao zs → Env w → Calls Tryz.prog 25 #[.int .i64 k, .slice ao zs.length c, .string el] w (MakesPost (n, t) w)) ∧
    ((n = 1 ∨ n = 2) ∨ (n = 0 ∧ t = textL k zs el.data.toList ∧ zs.length ≤ 3 ∧ (∀ x ∈ zs, 0 ≤ x ∧ x ≤ 1000) ∧ prodL zs ≤ 4096)) := by
  by_cases h3 : 3 < zs.length
  · exact ⟨1, [], fun w _ _ => Make_long k hk ao _ c h3 el w, .inl (.inl rfl)⟩
  · by_cases hr : ∀ x ∈ zs, 0 ≤ x ∧ x ≤ 1000
    · obtain ⟨z0, z1, z2, he, h0, h1, h2⟩ := exts_of (by omega) hr
      have hm : ∀ w, IntsAt w ao zs → Env w → Calls Tryz.prog 25 #[.int .i64 k, .slice ao zs.length c, .string el] w (MakesPost (makeL k zs el.data.toList) w) := fun w hz hE => by
        have h := Make_rest w k hk ao zs.length c (by omega) z0 z1 z2 (by rw [he]; exact hz) h0 h1 h2 el hE
        rw [makeL_rest k (by omega), he] at h
        exact h
      by_cases hp : 4096 < prodL zs
      · have e : makeL k zs el.data.toList = (2, []) := by rw [makeL, if_neg (by rw [hnum]; simp), if_pos hp]
        rw [e] at hm
        exact ⟨2, [], hm, .inl (.inr rfl)⟩
      · have e := makeL_text (k := k) hnum (show prodL zs ≤ 4096 by omega)
        rw [e] at hm
        exact ⟨0, _, hm, .inr ⟨rfl, rfl, by omega, hr, by omega⟩⟩
    · exact ⟨1, [], fun w hz _ => Make_range k hk ao zs c (by omega) (bad_ext hr) el w hz, .inl (.inl rfl)⟩

/-- The element type that the law takes: the first of the list, if it is a number type. -/
theorem index_num : numB [105, 110, 100, 101, 120] = true := by kernel_rfl
theorem kind_of (k : Int) : wrap64 (2 + wrap64 ((IntKind.u64.wrap k).tmod 2)) = 2 ∨ wrap64 (2 + wrap64 ((IntKind.u64.wrap k).tmod 2)) = 3 := by
  have h0 : 0 ≤ IntKind.u64.wrap k := by
    show 0 ≤ k % 18446744073709551616
    omega
  generalize IntKind.u64.wrap k = u at h0
  rw [Int.tmod_eq_emod_of_nonneg h0]
  unfold wrap64
  omega

theorem ne_toList {x y : List UInt8} (h : x ≠ y) : (x == y) = false := by
  cases he : x == y
  · rfl
  · exact absurd (eq_of_beq he) h
theorem Make_val {k : Int} (hk : k = 2 ∨ k = 3) (ao : Option Addr) (zs : List Int) (c : Nat) (el : ByteArray) (hnum : numB el.data.toList = true) (h3 : zs.length ≤ 3) (hr : ∀ x ∈ zs, 0 ≤ x ∧ x ≤ 1000) (hp : prodL zs ≤ 4096) (w : World) (hz : IntsAt w ao zs) (hE : Env w) :
    Calls Tryz.prog 25 #[.int .i64 k, .slice ao zs.length c, .string el] w fun e w' => e = .returned (.tuple #[.string ⟨(textL k zs el.data.toList).toArray⟩, .int .i64 0]) ∧ Below w.heap.size w w' := by
  obtain ⟨z0, z1, z2, he, h0, h1, h2⟩ := exts_of h3 hr
  have h := Make_rest w k hk ao zs.length c h3 z0 z1 z2 (by rw [he]; exact hz) h0 h1 h2 el hE
  rw [makeL_rest k h3, he, makeL_text hnum hp] at h
  exact h

/-- A list that was joined is split again. -/
theorem Split_back (ss : List ByteArray) (j : List UInt8) (hj : j = joinR (ss.map (·.data.toList))) (hall : ss.all (fun s => isTy s.data.toList) = true) (h100 : ss.length ≤ 100) (w : World) (hE : Env w) :
    Calls Tryz.prog 35 #[.string ⟨j.toArray⟩] w fun e w' => ∃ (ao : Option Addr) (c : Nat), e = .returned (.tuple #[.slice ao ss.length c, .int .i64 0]) ∧ StrsAt w' ao ss ∧ Below w.heap.size w w' := by
  have hl : listR j = some (ss.map (·.data.toList)) := by rw [hj, listR_joinR (all_tyR hall), List.length_map, if_pos h100]
  have hs : (⟨j.toArray⟩ : ByteArray).size < 4294967281 := by
    have := join_size (all_len hall)
    rw [mk_size, hj, joinR, List.length_cons, List.length_append, List.length_singleton]
    omega
  refine (Split_says ⟨j.toArray⟩ hs w hE).mono fun e w' ⟨hb, h⟩ => ?_
  rcases h with ⟨h, _⟩ | ⟨ps, ao, c, h, _, hst, he⟩
  · exact absurd (hl.symm.trans h) (by simp)
  · have hp : ss = ps := data_inj (Option.some.inj (hl.symm.trans h))
    subst hp
    exact ⟨ao, c, he, hst, hb⟩

set_option maxHeartbeats 16000000 in
set_option maxRecDepth 100000 in
theorem TypesBack_any (k : Int) (ao : Option Addr) (zs : List Int) (c : Nat) (a2 : Option Addr) (ss : List ByteArray) (c2 : Nat) (hc : ss.length ≤ c2) (hn : ss.length ≤ 9223372036854775807) (w : World) (hz : IntsAt w ao zs) (hs : StrsAt w a2 ss) (hE : Env w) :
    Calls Tryz.prog 9 #[.int .i64 k, .slice ao zs.length c, .slice a2 ss.length c2] w fun e w' => e = .returned (.bool true) ∧ Below w.heap.size w w' := by
  have HE := Lib.hid hE
  have HZ := Lib.hid hz
  have HS := Lib.hid hs
  clear hE hz hs
  obtain ⟨j, n, hJ, hcase⟩ := Join_says a2 ss c2 hc hn
  have HJ := Lib.hid hJ
  have HC := Lib.hid hcase
  have hk := kind_of k
  have hin := index_num
  clear hJ hcase
  by_cases h0 : 0 < ss.length
  · rcases HS.out with h | ⟨a, rfl, hcell⟩
    · rw [h] at h0
      exact absurd h0 (Nat.not_lt_zero _)
    have hc0 := hcell 0 h0
    rw [addr_zero] at hc0
    clear hcell
    obtain ⟨x, hx⟩ : ∃ x, x = ss[0]?.getD ByteArray.empty := ⟨_, rfl⟩
    rw [← hx] at hc0
    clear hx
    cases hnum : (numberR x.data.toList).2.2
    · have hN : numB (⟨#[105, 110, 100, 101, 120]⟩ : ByteArray).data.toList = true := hin
      clear hin
      have HN0 := Lib.hid hN
      clear hN
      go_enter Tryz.func9, Tryz.ntmps9
      go_wp2_with fail
      refine (IsNumber_ref x _).mono ?_
      rintro e w1 ⟨rfl, rfl⟩
      rw [hnum]
      clear hnum
      go_wp2_with fail
      obtain ⟨el, hel⟩ : ∃ el : ByteArray, el = ⟨#[105, 110, 100, 101, 120]⟩ := ⟨_, rfl⟩
      have HN : Hid (numB el.data.toList = true) := Lib.hid (by rw [hel]; exact HN0.out)
      rw [← hel]
      clear hel HN0
      generalize wrap64 (2 + wrap64 ((IntKind.u64.wrap k).tmod 2)) = K at hk ⊢
      have HK := Lib.hid hk
      clear hk
      obtain ⟨n1, t, hM, hMc⟩ := Make_says K HK.out ao zs c el HN.out
      have HM := Lib.hid hM
      clear hM
      refine (HM.out _ HZ.out HE.out).mono ?_
      rintro e w2 ⟨rfl, hb2⟩
      have B2 := Lib.hid hb2
      have S2 := Lib.hid (HS.out.below hb2)
      clear hb2
      rcases hMc with (rfl | rfl) | ⟨rfl, hA, h3, hr, hp⟩
      · go_wp2_with fail
        refine (HJ.out _ S2.out (HE.out.below B2.out)).mono ?_
        rintro e w20 ⟨rfl, hb20⟩
        have B20 := Lib.hid (B2.out.trans (hb20.mono B2.out.size))
        have S20 := Lib.hid (S2.out.below hb20)
        clear hb20
        rcases HC.out with ⟨hj, rfl, _⟩ | ⟨hj, rfl, _, _⟩ | ⟨hj, rfl, _, h100, hall⟩
        · clear hj
          go_wp2_with fail
          refine (awake_any _ (HE.out.below B20.out)).mono ?_
          rintro e w90 ⟨rfl, hb90⟩
          have B90 := Lib.hid (B20.out.trans (hb90.mono B20.out.size))
          clear hb90
          go_wp2_with fail
          go_ret
          exact ⟨rfl, B90.out⟩
        · clear hj
          go_wp2_with fail
          refine (awake_any _ (HE.out.below B20.out)).mono ?_
          rintro e w90 ⟨rfl, hb90⟩
          have B90 := Lib.hid (B20.out.trans (hb90.mono B20.out.size))
          clear hb90
          go_wp2_with fail
          go_ret
          exact ⟨rfl, B90.out⟩
        · have HJJ := Lib.hid hj
          have HALL := Lib.hid hall
          clear hj hall
          go_wp2_with fail
          refine (Split_back ss j HJJ.out HALL.out h100 _ (HE.out.below B20.out)).mono ?_
          rintro e w21 ⟨ao9, c9, rfl, hst, hb21⟩
          have ST := Lib.hid hst
          clear hst
          have B21 := Lib.hid (B20.out.trans (hb21.mono B20.out.size))
          have S21 := Lib.hid (S20.out.below hb21)
          clear hb21
          go_wp2_with fail
          refine (strings_yes ao9 (some a) ss c9 c2 (by omega) _ ST.out S21.out).mono ?_
          rintro e w22 ⟨rfl, hb22⟩
          have B22 := Lib.hid (B21.out.trans (hb22.mono B21.out.size))
          clear hb22
          go_wp2_with fail
          refine (awake_any _ (HE.out.below B22.out)).mono ?_
          rintro e w90 ⟨rfl, hb90⟩
          have B90 := Lib.hid (B22.out.trans (hb90.mono B22.out.size))
          clear hb90
          go_wp2_with fail
          go_ret
          exact ⟨rfl, B90.out⟩
      · go_wp2_with fail
        refine (HJ.out _ S2.out (HE.out.below B2.out)).mono ?_
        rintro e w20 ⟨rfl, hb20⟩
        have B20 := Lib.hid (B2.out.trans (hb20.mono B2.out.size))
        have S20 := Lib.hid (S2.out.below hb20)
        clear hb20
        rcases HC.out with ⟨hj, rfl, _⟩ | ⟨hj, rfl, _, _⟩ | ⟨hj, rfl, _, h100, hall⟩
        · clear hj
          go_wp2_with fail
          refine (awake_any _ (HE.out.below B20.out)).mono ?_
          rintro e w90 ⟨rfl, hb90⟩
          have B90 := Lib.hid (B20.out.trans (hb90.mono B20.out.size))
          clear hb90
          go_wp2_with fail
          go_ret
          exact ⟨rfl, B90.out⟩
        · clear hj
          go_wp2_with fail
          refine (awake_any _ (HE.out.below B20.out)).mono ?_
          rintro e w90 ⟨rfl, hb90⟩
          have B90 := Lib.hid (B20.out.trans (hb90.mono B20.out.size))
          clear hb90
          go_wp2_with fail
          go_ret
          exact ⟨rfl, B90.out⟩
        · have HJJ := Lib.hid hj
          have HALL := Lib.hid hall
          clear hj hall
          go_wp2_with fail
          refine (Split_back ss j HJJ.out HALL.out h100 _ (HE.out.below B20.out)).mono ?_
          rintro e w21 ⟨ao9, c9, rfl, hst, hb21⟩
          have ST := Lib.hid hst
          clear hst
          have B21 := Lib.hid (B20.out.trans (hb21.mono B20.out.size))
          have S21 := Lib.hid (S20.out.below hb21)
          clear hb21
          go_wp2_with fail
          refine (strings_yes ao9 (some a) ss c9 c2 (by omega) _ ST.out S21.out).mono ?_
          rintro e w22 ⟨rfl, hb22⟩
          have B22 := Lib.hid (B21.out.trans (hb22.mono B21.out.size))
          clear hb22
          go_wp2_with fail
          refine (awake_any _ (HE.out.below B22.out)).mono ?_
          rintro e w90 ⟨rfl, hb90⟩
          have B90 := Lib.hid (B22.out.trans (hb90.mono B22.out.size))
          clear hb90
          go_wp2_with fail
          go_ret
          exact ⟨rfl, B90.out⟩
      · have HR := Lib.hid hr
        have HP := Lib.hid hp
        have HA := Lib.hid hA
        obtain ⟨x0, x1, x2, ht, hT⟩ := text_ty HK.out h3 hr HN.out hp
        obtain ⟨y0, y1, y2, hu, hU⟩ := text_ty (k := 5 - K) (by have := HK.out; omega) h3 hr HN.out hp
        have wf := Lib.hid (desc_wf hT.is)
        have uf := Lib.hid (desc_wf hU.is)
        have ET := Lib.hid (textL_spec (k := 5 - K) h3 ht wf.out.2.2.2.1 wf.out.2.2.2.2.1 wf.out.2.2.2.2.2.1 HN.out hp)
        have EU := Lib.hid (textL_spec (k := K) h3 hu uf.out.2.2.2.1 uf.out.2.2.2.2.1 uf.out.2.2.2.2.2.1 HN.out hp)
        obtain ⟨u, hu2⟩ : ∃ u, u = textL (5 - K) zs el.data.toList := ⟨_, rfl⟩
        have hne : u ≠ t := by rw [hu2, hA]; exact textL_ne HK.out zs el.data.toList
        have T1 : Hid (Ty ⟨t.toArray⟩ K 0 zs.length x0 x1 x2 el) := Lib.hid (by rw [hA]; exact hT)
        have U1 : Hid (Ty ⟨u.toArray⟩ (5 - K) 0 zs.length y0 y1 y2 el) := Lib.hid (by rw [hu2]; exact hU)
        have HT := Lib.hid ht
        have HU := Lib.hid hu2
        have hne2 := ne_toList hne
        clear hr hp hA ht hT hu hU hu2 hne
        go_wp2_with fail
        refine (KindOf_yes T1.out _ (HE.out.below B2.out)).mono ?_
        rintro e w3 ⟨rfl, hb3⟩
        have B3 := Lib.hid (B2.out.trans (hb3.mono B2.out.size))
        have S3 := Lib.hid (S2.out.below hb3)
        clear hb3
        go_wp2_with fail
        refine (Shape_yes T1.out HK.out h3 wf.out.2.2.2.1 wf.out.2.2.2.2.1 wf.out.2.2.2.2.2.1 _ (HE.out.below B3.out)).mono ?_
        rintro e w4 ⟨ao4, c4, rfl, hi, hb4⟩
        rw [HT.out] at hi
        have I4 := Lib.hid hi
        clear hi
        have B4 := Lib.hid (B3.out.trans (hb4.mono B3.out.size))
        have S4 := Lib.hid (S3.out.below hb4)
        clear hb4
        go_wp2_with fail
        refine (Make_val HK.out ao4 zs c4 el HN.out h3 HR.out HP.out _ I4.out (HE.out.below B4.out)).mono ?_
        rintro e w5 ⟨he, hb5⟩
        rw [← HA.out] at he
        subst he
        have B5 := Lib.hid (B4.out.trans (hb5.mono B4.out.size))
        have S5 := Lib.hid (S4.out.below hb5)
        clear hb5
        go_wp2_with fail
        refine (Turned_yes T1.out HK.out wf.out.2.2.2.1 wf.out.2.2.2.2.1 wf.out.2.2.2.2.2.1 h3 (numB_size HN.out) _ (HE.out.below B5.out)).mono ?_
        rintro e w6 ⟨he, hb6⟩
        rw [ET.out, ← HU.out] at he
        subst he
        have B6 := Lib.hid (B5.out.trans (hb6.mono B5.out.size))
        have S6 := Lib.hid (S5.out.below hb6)
        clear hb6
        go_wp2_with fail
        refine (Turned_yes U1.out (by have := HK.out; omega) uf.out.2.2.2.1 uf.out.2.2.2.2.1 uf.out.2.2.2.2.2.1 h3 (numB_size HN.out) _ (HE.out.below B6.out)).mono ?_
        rintro e w7 ⟨he, hb7⟩
        rw [show (5 : Int) - (5 - K) = K by omega, EU.out, ← HA.out] at he
        subst he
        have B7 := Lib.hid (B6.out.trans (hb7.mono B6.out.size))
        have S7 := Lib.hid (S6.out.below hb7)
        clear hb7
        go_wp2_with fail
        refine (Check_yes U1.out _ (HE.out.below B7.out)).mono ?_
        rintro e w8 ⟨rfl, hb8⟩
        have B8 := Lib.hid (B7.out.trans (hb8.mono B7.out.size))
        have S8 := Lib.hid (S7.out.below hb8)
        clear hb8
        go_wp2_with fail
        refine (HJ.out _ S8.out (HE.out.below B8.out)).mono ?_
        rintro e w20 ⟨rfl, hb20⟩
        have B20 := Lib.hid (B8.out.trans (hb20.mono B8.out.size))
        have S20 := Lib.hid (S8.out.below hb20)
        clear hb20
        rcases HC.out with ⟨hj, rfl, _⟩ | ⟨hj, rfl, _, _⟩ | ⟨hj, rfl, _, h100, hall⟩
        · clear hj
          go_wp2_with fail
          refine (awake_any _ (HE.out.below B20.out)).mono ?_
          rintro e w90 ⟨rfl, hb90⟩
          have B90 := Lib.hid (B20.out.trans (hb90.mono B20.out.size))
          clear hb90
          go_wp2_with fail
          go_ret
          exact ⟨rfl, B90.out⟩
        · clear hj
          go_wp2_with fail
          refine (awake_any _ (HE.out.below B20.out)).mono ?_
          rintro e w90 ⟨rfl, hb90⟩
          have B90 := Lib.hid (B20.out.trans (hb90.mono B20.out.size))
          clear hb90
          go_wp2_with fail
          go_ret
          exact ⟨rfl, B90.out⟩
        · have HJJ := Lib.hid hj
          have HALL := Lib.hid hall
          clear hj hall
          go_wp2_with fail
          refine (Split_back ss j HJJ.out HALL.out h100 _ (HE.out.below B20.out)).mono ?_
          rintro e w21 ⟨ao9, c9, rfl, hst, hb21⟩
          have ST := Lib.hid hst
          clear hst
          have B21 := Lib.hid (B20.out.trans (hb21.mono B20.out.size))
          have S21 := Lib.hid (S20.out.below hb21)
          clear hb21
          go_wp2_with fail
          refine (strings_yes ao9 (some a) ss c9 c2 (by omega) _ ST.out S21.out).mono ?_
          rintro e w22 ⟨rfl, hb22⟩
          have B22 := Lib.hid (B21.out.trans (hb22.mono B21.out.size))
          clear hb22
          go_wp2_with fail
          refine (awake_any _ (HE.out.below B22.out)).mono ?_
          rintro e w90 ⟨rfl, hb90⟩
          have B90 := Lib.hid (B22.out.trans (hb90.mono B22.out.size))
          clear hb90
          go_wp2_with fail
          go_ret
          exact ⟨rfl, B90.out⟩
    · have HN0 := Lib.hid (show numB x.data.toList = true by rw [numB_numberR, hnum])
      clear hin
      go_enter Tryz.func9, Tryz.ntmps9
      go_wp2_with fail
      refine (IsNumber_ref x _).mono ?_
      rintro e w1 ⟨rfl, rfl⟩
      rw [hnum]
      clear hnum
      go_wp2_with fail
      clear hc0
      obtain ⟨el, hel⟩ : ∃ el : ByteArray, el = x := ⟨_, rfl⟩
      have HN : Hid (numB el.data.toList = true) := Lib.hid (by rw [hel]; exact HN0.out)
      rw [← hel]
      clear hel HN0
      generalize wrap64 (2 + wrap64 ((IntKind.u64.wrap k).tmod 2)) = K at hk ⊢
      have HK := Lib.hid hk
      clear hk
      obtain ⟨n1, t, hM, hMc⟩ := Make_says K HK.out ao zs c el HN.out
      have HM := Lib.hid hM
      clear hM
      refine (HM.out _ HZ.out HE.out).mono ?_
      rintro e w2 ⟨rfl, hb2⟩
      have B2 := Lib.hid hb2
      have S2 := Lib.hid (HS.out.below hb2)
      clear hb2
      rcases hMc with (rfl | rfl) | ⟨rfl, hA, h3, hr, hp⟩
      · go_wp2_with fail
        refine (HJ.out _ S2.out (HE.out.below B2.out)).mono ?_
        rintro e w20 ⟨rfl, hb20⟩
        have B20 := Lib.hid (B2.out.trans (hb20.mono B2.out.size))
        have S20 := Lib.hid (S2.out.below hb20)
        clear hb20
        rcases HC.out with ⟨hj, rfl, _⟩ | ⟨hj, rfl, _, _⟩ | ⟨hj, rfl, _, h100, hall⟩
        · clear hj
          go_wp2_with fail
          refine (awake_any _ (HE.out.below B20.out)).mono ?_
          rintro e w90 ⟨rfl, hb90⟩
          have B90 := Lib.hid (B20.out.trans (hb90.mono B20.out.size))
          clear hb90
          go_wp2_with fail
          go_ret
          exact ⟨rfl, B90.out⟩
        · clear hj
          go_wp2_with fail
          refine (awake_any _ (HE.out.below B20.out)).mono ?_
          rintro e w90 ⟨rfl, hb90⟩
          have B90 := Lib.hid (B20.out.trans (hb90.mono B20.out.size))
          clear hb90
          go_wp2_with fail
          go_ret
          exact ⟨rfl, B90.out⟩
        · have HJJ := Lib.hid hj
          have HALL := Lib.hid hall
          clear hj hall
          go_wp2_with fail
          refine (Split_back ss j HJJ.out HALL.out h100 _ (HE.out.below B20.out)).mono ?_
          rintro e w21 ⟨ao9, c9, rfl, hst, hb21⟩
          have ST := Lib.hid hst
          clear hst
          have B21 := Lib.hid (B20.out.trans (hb21.mono B20.out.size))
          have S21 := Lib.hid (S20.out.below hb21)
          clear hb21
          go_wp2_with fail
          refine (strings_yes ao9 (some a) ss c9 c2 (by omega) _ ST.out S21.out).mono ?_
          rintro e w22 ⟨rfl, hb22⟩
          have B22 := Lib.hid (B21.out.trans (hb22.mono B21.out.size))
          clear hb22
          go_wp2_with fail
          refine (awake_any _ (HE.out.below B22.out)).mono ?_
          rintro e w90 ⟨rfl, hb90⟩
          have B90 := Lib.hid (B22.out.trans (hb90.mono B22.out.size))
          clear hb90
          go_wp2_with fail
          go_ret
          exact ⟨rfl, B90.out⟩
      · go_wp2_with fail
        refine (HJ.out _ S2.out (HE.out.below B2.out)).mono ?_
        rintro e w20 ⟨rfl, hb20⟩
        have B20 := Lib.hid (B2.out.trans (hb20.mono B2.out.size))
        have S20 := Lib.hid (S2.out.below hb20)
        clear hb20
        rcases HC.out with ⟨hj, rfl, _⟩ | ⟨hj, rfl, _, _⟩ | ⟨hj, rfl, _, h100, hall⟩
        · clear hj
          go_wp2_with fail
          refine (awake_any _ (HE.out.below B20.out)).mono ?_
          rintro e w90 ⟨rfl, hb90⟩
          have B90 := Lib.hid (B20.out.trans (hb90.mono B20.out.size))
          clear hb90
          go_wp2_with fail
          go_ret
          exact ⟨rfl, B90.out⟩
        · clear hj
          go_wp2_with fail
          refine (awake_any _ (HE.out.below B20.out)).mono ?_
          rintro e w90 ⟨rfl, hb90⟩
          have B90 := Lib.hid (B20.out.trans (hb90.mono B20.out.size))
          clear hb90
          go_wp2_with fail
          go_ret
          exact ⟨rfl, B90.out⟩
        · have HJJ := Lib.hid hj
          have HALL := Lib.hid hall
          clear hj hall
          go_wp2_with fail
          refine (Split_back ss j HJJ.out HALL.out h100 _ (HE.out.below B20.out)).mono ?_
          rintro e w21 ⟨ao9, c9, rfl, hst, hb21⟩
          have ST := Lib.hid hst
          clear hst
          have B21 := Lib.hid (B20.out.trans (hb21.mono B20.out.size))
          have S21 := Lib.hid (S20.out.below hb21)
          clear hb21
          go_wp2_with fail
          refine (strings_yes ao9 (some a) ss c9 c2 (by omega) _ ST.out S21.out).mono ?_
          rintro e w22 ⟨rfl, hb22⟩
          have B22 := Lib.hid (B21.out.trans (hb22.mono B21.out.size))
          clear hb22
          go_wp2_with fail
          refine (awake_any _ (HE.out.below B22.out)).mono ?_
          rintro e w90 ⟨rfl, hb90⟩
          have B90 := Lib.hid (B22.out.trans (hb90.mono B22.out.size))
          clear hb90
          go_wp2_with fail
          go_ret
          exact ⟨rfl, B90.out⟩
      · have HR := Lib.hid hr
        have HP := Lib.hid hp
        have HA := Lib.hid hA
        obtain ⟨x0, x1, x2, ht, hT⟩ := text_ty HK.out h3 hr HN.out hp
        obtain ⟨y0, y1, y2, hu, hU⟩ := text_ty (k := 5 - K) (by have := HK.out; omega) h3 hr HN.out hp
        have wf := Lib.hid (desc_wf hT.is)
        have uf := Lib.hid (desc_wf hU.is)
        have ET := Lib.hid (textL_spec (k := 5 - K) h3 ht wf.out.2.2.2.1 wf.out.2.2.2.2.1 wf.out.2.2.2.2.2.1 HN.out hp)
        have EU := Lib.hid (textL_spec (k := K) h3 hu uf.out.2.2.2.1 uf.out.2.2.2.2.1 uf.out.2.2.2.2.2.1 HN.out hp)
        obtain ⟨u, hu2⟩ : ∃ u, u = textL (5 - K) zs el.data.toList := ⟨_, rfl⟩
        have hne : u ≠ t := by rw [hu2, hA]; exact textL_ne HK.out zs el.data.toList
        have T1 : Hid (Ty ⟨t.toArray⟩ K 0 zs.length x0 x1 x2 el) := Lib.hid (by rw [hA]; exact hT)
        have U1 : Hid (Ty ⟨u.toArray⟩ (5 - K) 0 zs.length y0 y1 y2 el) := Lib.hid (by rw [hu2]; exact hU)
        have HT := Lib.hid ht
        have HU := Lib.hid hu2
        have hne2 := ne_toList hne
        clear hr hp hA ht hT hu hU hu2 hne
        go_wp2_with fail
        refine (KindOf_yes T1.out _ (HE.out.below B2.out)).mono ?_
        rintro e w3 ⟨rfl, hb3⟩
        have B3 := Lib.hid (B2.out.trans (hb3.mono B2.out.size))
        have S3 := Lib.hid (S2.out.below hb3)
        clear hb3
        go_wp2_with fail
        refine (Shape_yes T1.out HK.out h3 wf.out.2.2.2.1 wf.out.2.2.2.2.1 wf.out.2.2.2.2.2.1 _ (HE.out.below B3.out)).mono ?_
        rintro e w4 ⟨ao4, c4, rfl, hi, hb4⟩
        rw [HT.out] at hi
        have I4 := Lib.hid hi
        clear hi
        have B4 := Lib.hid (B3.out.trans (hb4.mono B3.out.size))
        have S4 := Lib.hid (S3.out.below hb4)
        clear hb4
        go_wp2_with fail
        refine (Make_val HK.out ao4 zs c4 el HN.out h3 HR.out HP.out _ I4.out (HE.out.below B4.out)).mono ?_
        rintro e w5 ⟨he, hb5⟩
        rw [← HA.out] at he
        subst he
        have B5 := Lib.hid (B4.out.trans (hb5.mono B4.out.size))
        have S5 := Lib.hid (S4.out.below hb5)
        clear hb5
        go_wp2_with fail
        refine (Turned_yes T1.out HK.out wf.out.2.2.2.1 wf.out.2.2.2.2.1 wf.out.2.2.2.2.2.1 h3 (numB_size HN.out) _ (HE.out.below B5.out)).mono ?_
        rintro e w6 ⟨he, hb6⟩
        rw [ET.out, ← HU.out] at he
        subst he
        have B6 := Lib.hid (B5.out.trans (hb6.mono B5.out.size))
        have S6 := Lib.hid (S5.out.below hb6)
        clear hb6
        go_wp2_with fail
        refine (Turned_yes U1.out (by have := HK.out; omega) uf.out.2.2.2.1 uf.out.2.2.2.2.1 uf.out.2.2.2.2.2.1 h3 (numB_size HN.out) _ (HE.out.below B6.out)).mono ?_
        rintro e w7 ⟨he, hb7⟩
        rw [show (5 : Int) - (5 - K) = K by omega, EU.out, ← HA.out] at he
        subst he
        have B7 := Lib.hid (B6.out.trans (hb7.mono B6.out.size))
        have S7 := Lib.hid (S6.out.below hb7)
        clear hb7
        go_wp2_with fail
        refine (Check_yes U1.out _ (HE.out.below B7.out)).mono ?_
        rintro e w8 ⟨rfl, hb8⟩
        have B8 := Lib.hid (B7.out.trans (hb8.mono B7.out.size))
        have S8 := Lib.hid (S7.out.below hb8)
        clear hb8
        go_wp2_with fail
        refine (HJ.out _ S8.out (HE.out.below B8.out)).mono ?_
        rintro e w20 ⟨rfl, hb20⟩
        have B20 := Lib.hid (B8.out.trans (hb20.mono B8.out.size))
        have S20 := Lib.hid (S8.out.below hb20)
        clear hb20
        rcases HC.out with ⟨hj, rfl, _⟩ | ⟨hj, rfl, _, _⟩ | ⟨hj, rfl, _, h100, hall⟩
        · clear hj
          go_wp2_with fail
          refine (awake_any _ (HE.out.below B20.out)).mono ?_
          rintro e w90 ⟨rfl, hb90⟩
          have B90 := Lib.hid (B20.out.trans (hb90.mono B20.out.size))
          clear hb90
          go_wp2_with fail
          go_ret
          exact ⟨rfl, B90.out⟩
        · clear hj
          go_wp2_with fail
          refine (awake_any _ (HE.out.below B20.out)).mono ?_
          rintro e w90 ⟨rfl, hb90⟩
          have B90 := Lib.hid (B20.out.trans (hb90.mono B20.out.size))
          clear hb90
          go_wp2_with fail
          go_ret
          exact ⟨rfl, B90.out⟩
        · have HJJ := Lib.hid hj
          have HALL := Lib.hid hall
          clear hj hall
          go_wp2_with fail
          refine (Split_back ss j HJJ.out HALL.out h100 _ (HE.out.below B20.out)).mono ?_
          rintro e w21 ⟨ao9, c9, rfl, hst, hb21⟩
          have ST := Lib.hid hst
          clear hst
          have B21 := Lib.hid (B20.out.trans (hb21.mono B20.out.size))
          have S21 := Lib.hid (S20.out.below hb21)
          clear hb21
          go_wp2_with fail
          refine (strings_yes ao9 (some a) ss c9 c2 (by omega) _ ST.out S21.out).mono ?_
          rintro e w22 ⟨rfl, hb22⟩
          have B22 := Lib.hid (B21.out.trans (hb22.mono B21.out.size))
          clear hb22
          go_wp2_with fail
          refine (awake_any _ (HE.out.below B22.out)).mono ?_
          rintro e w90 ⟨rfl, hb90⟩
          have B90 := Lib.hid (B22.out.trans (hb90.mono B22.out.size))
          clear hb90
          go_wp2_with fail
          go_ret
          exact ⟨rfl, B90.out⟩
  · have hN : numB (⟨#[105, 110, 100, 101, 120]⟩ : ByteArray).data.toList = true := hin
    clear hin
    have HN0 := Lib.hid hN
    clear hN
    go_enter Tryz.func9, Tryz.ntmps9
    go_wp2_with fail
    obtain ⟨el, hel⟩ : ∃ el : ByteArray, el = ⟨#[105, 110, 100, 101, 120]⟩ := ⟨_, rfl⟩
    have HN : Hid (numB el.data.toList = true) := Lib.hid (by rw [hel]; exact HN0.out)
    rw [← hel]
    clear hel HN0
    generalize wrap64 (2 + wrap64 ((IntKind.u64.wrap k).tmod 2)) = K at hk ⊢
    have HK := Lib.hid hk
    clear hk
    obtain ⟨n1, t, hM, hMc⟩ := Make_says K HK.out ao zs c el HN.out
    have HM := Lib.hid hM
    clear hM
    refine (HM.out _ HZ.out HE.out).mono ?_
    rintro e w2 ⟨rfl, hb2⟩
    have B2 := Lib.hid hb2
    have S2 := Lib.hid (HS.out.below hb2)
    clear hb2
    rcases hMc with (rfl | rfl) | ⟨rfl, hA, h3, hr, hp⟩
    · go_wp2_with fail
      refine (HJ.out _ S2.out (HE.out.below B2.out)).mono ?_
      rintro e w20 ⟨rfl, hb20⟩
      have B20 := Lib.hid (B2.out.trans (hb20.mono B2.out.size))
      have S20 := Lib.hid (S2.out.below hb20)
      clear hb20
      rcases HC.out with ⟨hj, rfl, _⟩ | ⟨hj, rfl, _, _⟩ | ⟨hj, rfl, _, h100, hall⟩
      · clear hj
        go_wp2_with fail
        refine (awake_any _ (HE.out.below B20.out)).mono ?_
        rintro e w90 ⟨rfl, hb90⟩
        have B90 := Lib.hid (B20.out.trans (hb90.mono B20.out.size))
        clear hb90
        go_wp2_with fail
        go_ret
        exact ⟨rfl, B90.out⟩
      · clear hj
        go_wp2_with fail
        refine (awake_any _ (HE.out.below B20.out)).mono ?_
        rintro e w90 ⟨rfl, hb90⟩
        have B90 := Lib.hid (B20.out.trans (hb90.mono B20.out.size))
        clear hb90
        go_wp2_with fail
        go_ret
        exact ⟨rfl, B90.out⟩
      · have HJJ := Lib.hid hj
        have HALL := Lib.hid hall
        clear hj hall
        go_wp2_with fail
        refine (Split_back ss j HJJ.out HALL.out h100 _ (HE.out.below B20.out)).mono ?_
        rintro e w21 ⟨ao9, c9, rfl, hst, hb21⟩
        have ST := Lib.hid hst
        clear hst
        have B21 := Lib.hid (B20.out.trans (hb21.mono B20.out.size))
        have S21 := Lib.hid (S20.out.below hb21)
        clear hb21
        go_wp2_with fail
        refine (strings_yes ao9 a2 ss c9 c2 (by omega) _ ST.out S21.out).mono ?_
        rintro e w22 ⟨rfl, hb22⟩
        have B22 := Lib.hid (B21.out.trans (hb22.mono B21.out.size))
        clear hb22
        go_wp2_with fail
        refine (awake_any _ (HE.out.below B22.out)).mono ?_
        rintro e w90 ⟨rfl, hb90⟩
        have B90 := Lib.hid (B22.out.trans (hb90.mono B22.out.size))
        clear hb90
        go_wp2_with fail
        go_ret
        exact ⟨rfl, B90.out⟩
    · go_wp2_with fail
      refine (HJ.out _ S2.out (HE.out.below B2.out)).mono ?_
      rintro e w20 ⟨rfl, hb20⟩
      have B20 := Lib.hid (B2.out.trans (hb20.mono B2.out.size))
      have S20 := Lib.hid (S2.out.below hb20)
      clear hb20
      rcases HC.out with ⟨hj, rfl, _⟩ | ⟨hj, rfl, _, _⟩ | ⟨hj, rfl, _, h100, hall⟩
      · clear hj
        go_wp2_with fail
        refine (awake_any _ (HE.out.below B20.out)).mono ?_
        rintro e w90 ⟨rfl, hb90⟩
        have B90 := Lib.hid (B20.out.trans (hb90.mono B20.out.size))
        clear hb90
        go_wp2_with fail
        go_ret
        exact ⟨rfl, B90.out⟩
      · clear hj
        go_wp2_with fail
        refine (awake_any _ (HE.out.below B20.out)).mono ?_
        rintro e w90 ⟨rfl, hb90⟩
        have B90 := Lib.hid (B20.out.trans (hb90.mono B20.out.size))
        clear hb90
        go_wp2_with fail
        go_ret
        exact ⟨rfl, B90.out⟩
      · have HJJ := Lib.hid hj
        have HALL := Lib.hid hall
        clear hj hall
        go_wp2_with fail
        refine (Split_back ss j HJJ.out HALL.out h100 _ (HE.out.below B20.out)).mono ?_
        rintro e w21 ⟨ao9, c9, rfl, hst, hb21⟩
        have ST := Lib.hid hst
        clear hst
        have B21 := Lib.hid (B20.out.trans (hb21.mono B20.out.size))
        have S21 := Lib.hid (S20.out.below hb21)
        clear hb21
        go_wp2_with fail
        refine (strings_yes ao9 a2 ss c9 c2 (by omega) _ ST.out S21.out).mono ?_
        rintro e w22 ⟨rfl, hb22⟩
        have B22 := Lib.hid (B21.out.trans (hb22.mono B21.out.size))
        clear hb22
        go_wp2_with fail
        refine (awake_any _ (HE.out.below B22.out)).mono ?_
        rintro e w90 ⟨rfl, hb90⟩
        have B90 := Lib.hid (B22.out.trans (hb90.mono B22.out.size))
        clear hb90
        go_wp2_with fail
        go_ret
        exact ⟨rfl, B90.out⟩
    · have HR := Lib.hid hr
      have HP := Lib.hid hp
      have HA := Lib.hid hA
      obtain ⟨x0, x1, x2, ht, hT⟩ := text_ty HK.out h3 hr HN.out hp
      obtain ⟨y0, y1, y2, hu, hU⟩ := text_ty (k := 5 - K) (by have := HK.out; omega) h3 hr HN.out hp
      have wf := Lib.hid (desc_wf hT.is)
      have uf := Lib.hid (desc_wf hU.is)
      have ET := Lib.hid (textL_spec (k := 5 - K) h3 ht wf.out.2.2.2.1 wf.out.2.2.2.2.1 wf.out.2.2.2.2.2.1 HN.out hp)
      have EU := Lib.hid (textL_spec (k := K) h3 hu uf.out.2.2.2.1 uf.out.2.2.2.2.1 uf.out.2.2.2.2.2.1 HN.out hp)
      obtain ⟨u, hu2⟩ : ∃ u, u = textL (5 - K) zs el.data.toList := ⟨_, rfl⟩
      have hne : u ≠ t := by rw [hu2, hA]; exact textL_ne HK.out zs el.data.toList
      have T1 : Hid (Ty ⟨t.toArray⟩ K 0 zs.length x0 x1 x2 el) := Lib.hid (by rw [hA]; exact hT)
      have U1 : Hid (Ty ⟨u.toArray⟩ (5 - K) 0 zs.length y0 y1 y2 el) := Lib.hid (by rw [hu2]; exact hU)
      have HT := Lib.hid ht
      have HU := Lib.hid hu2
      have hne2 := ne_toList hne
      clear hr hp hA ht hT hu hU hu2 hne
      go_wp2_with fail
      refine (KindOf_yes T1.out _ (HE.out.below B2.out)).mono ?_
      rintro e w3 ⟨rfl, hb3⟩
      have B3 := Lib.hid (B2.out.trans (hb3.mono B2.out.size))
      have S3 := Lib.hid (S2.out.below hb3)
      clear hb3
      go_wp2_with fail
      refine (Shape_yes T1.out HK.out h3 wf.out.2.2.2.1 wf.out.2.2.2.2.1 wf.out.2.2.2.2.2.1 _ (HE.out.below B3.out)).mono ?_
      rintro e w4 ⟨ao4, c4, rfl, hi, hb4⟩
      rw [HT.out] at hi
      have I4 := Lib.hid hi
      clear hi
      have B4 := Lib.hid (B3.out.trans (hb4.mono B3.out.size))
      have S4 := Lib.hid (S3.out.below hb4)
      clear hb4
      go_wp2_with fail
      refine (Make_val HK.out ao4 zs c4 el HN.out h3 HR.out HP.out _ I4.out (HE.out.below B4.out)).mono ?_
      rintro e w5 ⟨he, hb5⟩
      rw [← HA.out] at he
      subst he
      have B5 := Lib.hid (B4.out.trans (hb5.mono B4.out.size))
      have S5 := Lib.hid (S4.out.below hb5)
      clear hb5
      go_wp2_with fail
      refine (Turned_yes T1.out HK.out wf.out.2.2.2.1 wf.out.2.2.2.2.1 wf.out.2.2.2.2.2.1 h3 (numB_size HN.out) _ (HE.out.below B5.out)).mono ?_
      rintro e w6 ⟨he, hb6⟩
      rw [ET.out, ← HU.out] at he
      subst he
      have B6 := Lib.hid (B5.out.trans (hb6.mono B5.out.size))
      have S6 := Lib.hid (S5.out.below hb6)
      clear hb6
      go_wp2_with fail
      refine (Turned_yes U1.out (by have := HK.out; omega) uf.out.2.2.2.1 uf.out.2.2.2.2.1 uf.out.2.2.2.2.2.1 h3 (numB_size HN.out) _ (HE.out.below B6.out)).mono ?_
      rintro e w7 ⟨he, hb7⟩
      rw [show (5 : Int) - (5 - K) = K by omega, EU.out, ← HA.out] at he
      subst he
      have B7 := Lib.hid (B6.out.trans (hb7.mono B6.out.size))
      have S7 := Lib.hid (S6.out.below hb7)
      clear hb7
      go_wp2_with fail
      refine (Check_yes U1.out _ (HE.out.below B7.out)).mono ?_
      rintro e w8 ⟨rfl, hb8⟩
      have B8 := Lib.hid (B7.out.trans (hb8.mono B7.out.size))
      have S8 := Lib.hid (S7.out.below hb8)
      clear hb8
      go_wp2_with fail
      refine (HJ.out _ S8.out (HE.out.below B8.out)).mono ?_
      rintro e w20 ⟨rfl, hb20⟩
      have B20 := Lib.hid (B8.out.trans (hb20.mono B8.out.size))
      have S20 := Lib.hid (S8.out.below hb20)
      clear hb20
      rcases HC.out with ⟨hj, rfl, _⟩ | ⟨hj, rfl, _, _⟩ | ⟨hj, rfl, _, h100, hall⟩
      · clear hj
        go_wp2_with fail
        refine (awake_any _ (HE.out.below B20.out)).mono ?_
        rintro e w90 ⟨rfl, hb90⟩
        have B90 := Lib.hid (B20.out.trans (hb90.mono B20.out.size))
        clear hb90
        go_wp2_with fail
        go_ret
        exact ⟨rfl, B90.out⟩
      · clear hj
        go_wp2_with fail
        refine (awake_any _ (HE.out.below B20.out)).mono ?_
        rintro e w90 ⟨rfl, hb90⟩
        have B90 := Lib.hid (B20.out.trans (hb90.mono B20.out.size))
        clear hb90
        go_wp2_with fail
        go_ret
        exact ⟨rfl, B90.out⟩
      · have HJJ := Lib.hid hj
        have HALL := Lib.hid hall
        clear hj hall
        go_wp2_with fail
        refine (Split_back ss j HJJ.out HALL.out h100 _ (HE.out.below B20.out)).mono ?_
        rintro e w21 ⟨ao9, c9, rfl, hst, hb21⟩
        have ST := Lib.hid hst
        clear hst
        have B21 := Lib.hid (B20.out.trans (hb21.mono B20.out.size))
        have S21 := Lib.hid (S20.out.below hb21)
        clear hb21
        go_wp2_with fail
        refine (strings_yes ao9 a2 ss c9 c2 (by omega) _ ST.out S21.out).mono ?_
        rintro e w22 ⟨rfl, hb22⟩
        have B22 := Lib.hid (B21.out.trans (hb22.mono B21.out.size))
        clear hb22
        go_wp2_with fail
        refine (awake_any _ (HE.out.below B22.out)).mono ?_
        rintro e w90 ⟨rfl, hb90⟩
        have B90 := Lib.hid (B22.out.trans (hb90.mono B22.out.size))
        clear hb90
        go_wp2_with fail
        go_ret
        exact ⟨rfl, B90.out⟩
end Go.Proofs.YtjkhjflemcljdaaGreatDoor
