/-
  Texts of mine in one file: KAtEX, KAtEN.
-/
import Derived.Test.YtiofnjnaleglgaaGreatDoorQC
import Derived.Test.YtiofnjnaleglgaaGreatDoorG25
/-
  Where a value ends in a list: the reference's 'ends' as plain facts.
-/
namespace Go.Proofs.YtiofnjnaleglgaaGreatDoor
open Go.RowKit

def stepD (c : UInt8) : Int := if c.toNat = 91 ∨ c.toNat = 40 then 1 else if c.toNat = 93 ∨ c.toNat = 41 then -1 else 0
def dep : List UInt8 → Int
  | [] => 0
  | c :: l => stepD c + dep l
theorem dep_append : ∀ a b : List UInt8, dep (a ++ b) = dep a + dep b
  | [], b => by simp [dep]
  | c :: a, b => by rw [List.cons_append, dep, dep, dep_append a b]; omega
theorem dep_next {v : List UInt8} {i : Nat} {x : UInt8} (h : v[i]? = some x) : dep (v.take (i + 1)) = dep (v.take i) + stepD x := by
  rw [List.take_add_one, h, dep_append]
  show dep (v.take i) + (stepD x + 0) = _
  omega
structure ValQ (v : List UInt8) : Prop where
  noQ : ∀ c ∈ v, c.toNat ≠ 34
  flat : dep v = 0
  deepAt : ∀ i c, v[i]? = some c → (c.toNat = 44 ∨ c.toNat = 125) → dep (v.take i) ≠ 0
def sepC (c : UInt8) : Prop := c.toNat = 44 ∨ c.toNat = 125
def EndInv (s : List UInt8) (i : Nat) (d : Int) : Prop := ∀ v c rest, s = v ++ c :: rest → sepC c →
  (ValQ v → i ≤ v.length ∧ d = dep (v.take i)) ∧ (∀ t, v = quoteL t → d = 0 ∧ (i = 0 ∨ i = v.length))
def EndsAt (s : List UInt8) (n : Nat) : Prop := ∀ v c rest, s = v ++ c :: rest → sepC c → (ValQ v ∨ ∃ t, v = quoteL t) → n = v.length
section
variable {s : List UInt8} {i : Nat} {d : Int} {x : UInt8}
theorem EndInv.start : EndInv s 0 0 := fun _ _ _ _ _ => ⟨fun _ => ⟨Nat.zero_le _, rfl⟩, fun _ _ => ⟨rfl, .inl rfl⟩⟩
theorem at_sep {v rest : List UInt8} {c : UInt8} (e : s = v ++ c :: rest) : s[v.length]? = some c := by rw [e, List.getElem?_append_right (Nat.le_refl _), Nat.sub_self]; rfl
theorem at_in {v rest : List UInt8} {c : UInt8} (e : s = v ++ c :: rest) {j : Nat} (hj : j < v.length) : v[j]? = s[j]? := by rw [e, List.getElem?_append_left hj]
theorem quote_head (t : List UInt8) : (quoteL t)[0]? = some 34 := rfl
theorem quote_pos (t : List UInt8) : 0 < (quoteL t).length := by rw [quoteL, List.length_cons]; omega
theorem sep_ne (h : sepC x) : x.toNat ≠ 34 ∧ stepD x = 0 := by
  unfold sepC at h
  refine ⟨by omega, ?_⟩
  unfold stepD
  rw [if_neg (by omega), if_neg (by omega)]
theorem EndInv.plain (h : EndInv s i d) (hx : s[i]? = some x) (h34 : x.toNat ≠ 34) (hs : ¬ (sepC x ∧ d = 0)) : EndInv s (i + 1) (d + stepD x) := by
  intro v c rest e hc
  have h0 := h v c rest e hc
  constructor
  · intro hq
    obtain ⟨hi, hd⟩ := h0.1 hq
    by_cases hlt : i < v.length
    · have hv := (at_in e hlt).trans hx
      exact ⟨hlt, by rw [dep_next hv, hd]⟩
    · obtain rfl : i = v.length := by omega
      rw [at_sep e] at hx
      injection hx with hx
      subst hx
      exact absurd ⟨hc, by rw [hd, List.take_length, hq.flat]⟩ hs
  · intro t ht
    obtain ⟨hd, hi⟩ := h0.2 t ht
    rcases hi with rfl | rfl
    · have hp := quote_pos t
      rw [← ht] at hp
      have h1 := quote_head t
      rw [← ht, at_in e hp, hx] at h1
      injection h1 with h1
      subst h1
      exact absurd rfl h34
    · rw [at_sep e] at hx
      injection hx with hx
      subst hx
      exact absurd ⟨hc, hd⟩ hs
theorem EndInv.quote {n : Nat} (h : EndInv s i d) (hx : s[i]? = some x) (h34 : x.toNat = 34) (hu : ∀ t rest, s.drop i = quoteL t ++ rest → n = (quoteL t).length) : EndInv s (i + n) d := by
  intro v c rest e hc
  have h0 := h v c rest e hc
  constructor
  · intro hq
    obtain ⟨hi, hd⟩ := h0.1 hq
    by_cases hlt : i < v.length
    · have hv := (at_in e hlt).trans hx
      exact absurd h34 (hq.noQ x (List.mem_of_getElem? hv))
    · obtain rfl : i = v.length := by omega
      rw [at_sep e] at hx
      injection hx with hx
      subst hx
      exact absurd h34 (sep_ne hc).1
  · intro t ht
    obtain ⟨hd, hi⟩ := h0.2 t ht
    rcases hi with rfl | rfl
    · refine ⟨hd, .inr ?_⟩
      rw [Nat.zero_add, ht]
      exact hu t (c :: rest) (by rw [List.drop_zero, e, ht])
    · rw [at_sep e] at hx
      injection hx with hx
      subst hx
      exact absurd h34 (sep_ne hc).1
theorem EndInv.here (h : EndInv s i 0) (hx : s[i]? = some x) (hs : sepC x) : EndsAt s i := by
  intro v c rest e hc hv
  have h0 := h v c rest e hc
  rcases hv with hq | ⟨t, ht⟩
  · obtain ⟨hi, hd⟩ := h0.1 hq
    by_cases hlt : i < v.length
    · exact absurd hd.symm (hq.deepAt i x ((at_in e hlt).trans hx) hs)
    · omega
  · obtain ⟨_, hi⟩ := h0.2 t ht
    rcases hi with rfl | rfl
    · have hp := quote_pos t
      rw [← ht] at hp
      have h1 := quote_head t
      rw [← ht, at_in e hp, hx] at h1
      injection h1 with h1
      subst h1
      exact absurd rfl (sep_ne hs).1
    · rfl
theorem EndInv.out {n : Nat} (h : EndInv s i d) (hi : s.length ≤ i) : EndsAt s n := by
  intro v c rest e hc hv
  have h0 := h v c rest e hc
  have hl : v.length < s.length := by rw [e, List.length_append, List.length_cons]; omega
  rcases hv with hq | ⟨t, ht⟩
  · have := (h0.1 hq).1
    omega
  · rcases (h0.2 t ht).2 with h | h <;> omega
theorem EndInv.bad {n : Nat} (h : EndInv s i d) (hx : s[i]? = some x) (h34 : x.toNat = 34) (hu : ∀ t rest, s.drop i ≠ quoteL t ++ rest) : EndsAt s n := by
  intro v c rest e hc hv
  have h0 := h v c rest e hc
  rcases hv with hq | ⟨t, ht⟩
  · obtain ⟨hi, hd⟩ := h0.1 hq
    by_cases hlt : i < v.length
    · have hv := (at_in e hlt).trans hx
      exact absurd h34 (hq.noQ x (List.mem_of_getElem? hv))
    · obtain rfl : i = v.length := by omega
      rw [at_sep e] at hx
      injection hx with hx
      subst hx
      exact absurd h34 (sep_ne hc).1
  · obtain ⟨_, hi⟩ := h0.2 t ht
    rcases hi with rfl | rfl
    · exact absurd (by rw [List.drop_zero, e, ht]) (hu t (c :: rest))
    · rw [at_sep e] at hx
      injection hx with hx
      subst hx
      exact absurd h34 (sep_ne hc).1
end
/-- A character that neither opens nor closes nor parts. -/
def calmC (c : UInt8) : Bool := !(c.toNat == 34 || c.toNat == 91 || c.toNat == 40 || c.toNat == 44 || c.toNat == 93 || c.toNat == 41 || c.toNat == 125)
theorem calm_of {c : UInt8} (h : calmC c = true) : c.toNat ≠ 34 ∧ stepD c = 0 ∧ ¬ sepC c := by
  unfold calmC at h
  simp only [Bool.not_eq_true', Bool.or_eq_false_iff, beq_eq_false_iff_ne] at h
  obtain ⟨⟨⟨⟨⟨⟨h1, h2⟩, h3⟩, h4⟩, h5⟩, h6⟩, h7⟩ := h
  unfold stepD sepC
  exact ⟨h1, by rw [if_neg (by omega), if_neg (by omega)], by omega⟩
theorem dep_zero : ∀ l : List UInt8, (∀ c ∈ l, stepD c = 0) → dep l = 0
  | [], _ => rfl
  | c :: l, h => by
    rw [dep, h c (List.mem_cons_self ..), dep_zero l fun x hx => h x (List.mem_cons_of_mem _ hx)]
    rfl
theorem calm_val {v : List UInt8} (h : ∀ c ∈ v, calmC c = true) : ValQ v :=
  ⟨fun c hc => (calm_of (h c hc)).1, dep_zero v fun c hc => (calm_of (h c hc)).2.1, fun _ c hi hs => absurd hs (calm_of (h c (List.mem_of_getElem? hi))).2.2⟩
theorem bracket_val {o z : UInt8} {l : List UInt8} (ho : (o.toNat = 91 ∧ z.toNat = 93) ∨ (o.toNat = 40 ∧ z.toNat = 41)) (h : ∀ c ∈ l, c.toNat ≠ 34 ∧ stepD c = 0) : ValQ (o :: (l ++ [z])) := by
  have so : stepD o = 1 := by unfold stepD; rw [if_pos (by omega)]
  have sz : stepD z = -1 := by unfold stepD; rw [if_neg (by omega), if_pos (by omega)]
  refine ⟨fun c hc => ?_, ?_, fun i c hi hs => ?_⟩
  · rcases List.mem_cons.1 hc with rfl | hc
    · omega
    · rcases List.mem_append.1 hc with hc | hc
      · exact (h c hc).1
      · rw [List.mem_singleton] at hc
        subst hc
        omega
  · rw [dep, dep_append, so, dep_zero l fun c hc => (h c hc).2, dep, sz]
    rfl
  · cases i with
    | zero =>
      rw [List.getElem?_cons_zero] at hi
      injection hi with hi
      subst hi
      omega
    | succ i =>
      rw [List.getElem?_cons_succ] at hi
      rw [List.take_succ_cons, dep, so]
      have hil : i < l.length := by
        refine Decidable.by_contra fun hn => ?_
        rw [List.getElem?_append_right (by omega)] at hi
        have hz : i - l.length = 0 := by
          refine Decidable.by_contra fun hz => ?_
          rw [List.getElem?_eq_none (by rw [List.length_singleton]; omega)] at hi
          cases hi
        rw [hz, List.getElem?_cons_zero] at hi
        injection hi with hi
        subst hi
        rcases hs with hs | hs <;> omega
      rw [List.take_append_of_le_length (by omega), dep_zero (l.take i) fun c hc => (h c (List.mem_of_mem_take hc)).2]
      decide
theorem ty_calm : ∀ c : UInt8, tyC c = true → calmC c = true := by
  refine byte_cases ?_
  decide +kernel
theorem digit_calm : ∀ c : UInt8, bDigit c = true → calmC c = true := by
  refine byte_cases ?_
  decide +kernel
theorem itoa_calm (x : Int) : ∀ c ∈ Lib.itoa x, calmC c = true := by
  intro c hc
  unfold Lib.itoa at hc
  split at hc
  · rcases List.mem_cons.1 hc with rfl | hc
    · decide
    · exact digit_calm c (List.all_eq_true.1 (dec_all _) c hc)
  · exact digit_calm c (List.all_eq_true.1 (dec_all _) c hc)
theorem comma_flat : ∀ c ∈ gap, c.toNat ≠ 34 ∧ stepD c = 0 := by decide
/-- The string of a value: where it ends is told. -/
theorem value_val {a : At} (h : rightB a = true) : ValQ (valueL a) ∨ ∃ t, valueL a = quoteL t := by
  obtain ⟨_, ⟨n, z, rfl⟩ | ⟨n, t, rfl, ht⟩ | ⟨n, t, rfl, ht⟩ | ⟨n, t, rfl, ht⟩ | ⟨n, zs, rfl, hz⟩ | ⟨n, ss, rfl, hl, hs⟩⟩ := right_cases h
  · exact .inl (calm_val (itoa_calm z))
  · exact .inr ⟨t.data.toList, rfl⟩
  · refine .inl (calm_val (v := 64 :: t.data.toList) fun c hc => ?_)
    rcases List.mem_cons.1 hc with rfl | hc
    · decide
    · exact ty_calm c (List.all_eq_true.1 (name_ty ht) c hc)
  · exact .inl (calm_val fun c hc => ty_calm c (List.all_eq_true.1 (ty_all (by rw [← isTy_isTyR]; exact ht)) c hc))
  · refine .inl (bracket_val (o := 91) (z := 93) (l := Lib.join (zs.map Lib.itoa) gap) (.inl ⟨rfl, rfl⟩) (join_pred gap comma_flat _ fun p hp c hc => ?_))
    obtain ⟨z, _, rfl⟩ := List.mem_map.1 hp
    exact ⟨(calm_of (itoa_calm z c hc)).1, (calm_of (itoa_calm z c hc)).2.1⟩
  · refine .inl (bracket_val (o := 40) (z := 41) (l := Lib.join (ss.map (fun x : ByteArray => x.data.toList)) gap) (.inr ⟨rfl, rfl⟩) (join_pred gap comma_flat _ fun p hp c hc => ?_))
    have h1 := ty_calm c (List.all_eq_true.1 (ty_all (all_tyR hs p hp)) c hc)
    exact ⟨(calm_of h1).1, (calm_of h1).2.1⟩
end Go.Proofs.YtiofnjnaleglgaaGreatDoor

/-
  The reference's 'ends'.
-/
namespace Go.Proofs.YtiofnjnaleglgaaGreatDoor
open Go.RowKit

def EndsPost (s : ByteArray) (w : World) (e : Ending) (w' : World) : Prop := Below w.heap.size w w' ∧
  ∃ n : Nat, e = .returned (.int .i64 n) ∧ n ≤ s.size ∧ EndsAt s.data.toList n
theorem endsPost {s : ByteArray} {w w' : World} {n : Nat} (h : EndsAt s.data.toList n) (hn : n ≤ s.size) (hb : Below w.heap.size w w') : EndsPost s w (.returned (.int .i64 n)) w' := ⟨hb, n, rfl, hn, h⟩
theorem stepD_open {c : UInt8} (h : c.toNat = 91 ∨ c.toNat = 40) : stepD c = 1 := by unfold stepD; rw [if_pos h]
theorem stepD_shut {c : UInt8} (h : c.toNat = 93 ∨ c.toNat = 41) : stepD c = -1 := by unfold stepD; rw [if_neg (by omega), if_pos h]
theorem stepD_no {c : UInt8} (h1 : ¬ (c.toNat = 91 ∨ c.toNat = 40)) (h2 : ¬ (c.toNat = 93 ∨ c.toNat = 41)) : stepD c = 0 := by unfold stepD; rw [if_neg h1, if_neg h2]
/-- What the loop knows: the depth is that of the string so far, for each value that the string begins with. -/
structure EnS (w : World) (s : ByteArray) (m : Nat) (d : Int) (wr : World) : Prop where
  inv : EndInv s.data.toList m d
  low : -(m : Int) ≤ d
  high : d ≤ (m : Int)
  bel : Below w.heap.size w wr

set_option maxHeartbeats 8000000 in
set_option maxRecDepth 100000 in
theorem ends_any (s : ByteArray) (hs : s.size ≤ 1048576) (w : World) : Calls Tryz.prog 65 #[.string s] w (EndsPost s w) := by
  have HSZ := Lib.hid hs
  have hszi : (s.size : Int) ≤ 1048576 := by omega
  clear hs
  go_enter Tryz.func65, Tryz.ntmps65
  go_wp2_with fail
  go_loopw [3, 4] (fun dv i wr => ∃ (m : Nat) (d : Int), m ≤ s.size ∧ i = .int .i64 m ∧ dv = .int .i64 d ∧ Hid (EnS w s m d wr)) (fun _ i _ => s.size - (intOf i).toNat)
  case atStart => exact ⟨0, 0, Nat.zero_le _, rfl, rfl, EndInv.start, by omega, by omega, Below.refl _ _⟩
  case round =>
    obtain ⟨m, d, hms, rfl, rfl, HQ⟩ := hrel
    have dl := HQ.out.low
    have dh := HQ.out.high
    by_cases hlt : m < s.size
    rotate_left
    · have he := Lib.hid (show EndsAt s.data.toList s.size from HQ.out.inv.out (by rw [← size_eq]; omega))
      have hmi : ¬ (m : Int) < (s.size : Int) := by omega
      clear hlt
      go_wp2_with fail
      go_ret
      exact endsPost he.out (Nat.le_refl _) HQ.out.bel
    have hmi : (m : Int) < (s.size : Int) := by omega
    have hix := fun w => ix_at (s := s) rfl hlt w
    have hge := get_at hlt
    have hc := (s[m]'hlt).toNat_lt
    generalize s[m]'hlt = c at hix hge hc
    have HG := Lib.hid hge
    have HM := Lib.hid hlt
    clear hge hlt
    by_cases h34 : c.toNat = 34
    · have k34 : (c.toNat : Int) = 34 := by omega
      have H34 := Lib.hid h34
      clear h34
      go_wp2_with fail
      refine (Unquote_any _ (by rw [ByteArray.size_extract]; have := HSZ.out; omega) _).mono ?_
      rintro e w2 ⟨hb, (⟨T, n, rfl, hn, hq, hu⟩ | ⟨hno, T, n, rfl⟩)⟩
      · have B2 := Lib.hid (HQ.out.bel.trans (hb.mono HQ.out.bel.size))
        have hp := quote_pos T
        rw [hq, List.length_take] at hp
        have HN := Lib.hid (show 0 < n ∧ m + n ≤ s.size by rw [ByteArray.size_extract] at hn; have := HM.out; omega)
        have HI := Lib.hid (HQ.out.inv.quote (n := n) HG.out H34.out fun t rest e => (hu t rest (by rw [back_extract]; exact e)).2)
        have hni : (n : Int) ≤ 1048576 := by have := HN.out; omega
        clear hb hn hq hu hp
        go_wp2_with fail
        go_roundw
        case rel => exact ⟨m + n, d, HN.out.2, by go_num, rfl, HI.out, by omega, by omega, B2.out⟩
        case measure => have := HN.out; simp only [intOf]; omega
      · have B2 := Lib.hid (HQ.out.bel.trans (hb.mono HQ.out.bel.size))
        have HI := Lib.hid (HQ.out.inv.bad (n := s.size) HG.out H34.out fun t rest e => hno t rest (by rw [back_extract]; exact e))
        clear hb hno
        go_wp2_with fail
        go_ret
        exact endsPost HI.out (Nat.le_refl _) B2.out
    have k34 : ¬ (c.toNat : Int) = 34 := by omega
    by_cases ho : c.toNat = 91 ∨ c.toNat = 40
    · have HI := Lib.hid (HQ.out.inv.plain HG.out h34 (fun h => by have := h.1; unfold sepC at this; omega))
      rw [stepD_open ho] at HI
      rcases ho with ho | ho
      all_goals
        have ko : (c.toNat : Int) = _ := congrArg Int.ofNat ho
        clear h34 ho
        go_wp2_with fail
        go_roundw
        case rel => exact ⟨m + 1, d + 1, HM.out, by go_num, by go_num, HI.out, by omega, by omega, HQ.out.bel⟩
        case measure => have := HM.out; simp only [intOf]; omega
    by_cases hz : c.toNat = 93 ∨ c.toNat = 41
    · have HI := Lib.hid (HQ.out.inv.plain HG.out h34 (fun h => by have := h.1; unfold sepC at this; omega))
      rw [stepD_shut hz] at HI
      rcases hz with hz | hz
      all_goals
        have kz : (c.toNat : Int) = _ := congrArg Int.ofNat hz
        clear h34 ho hz
        go_wp2_with fail
        go_roundw
        case rel => exact ⟨m + 1, d + -1, HM.out, by go_num, by go_num, HI.out, by omega, by omega, HQ.out.bel⟩
        case measure => have := HM.out; simp only [intOf]; omega
    have n91 : ¬ (c.toNat : Int) = 91 := by omega
    have n40 : ¬ (c.toNat : Int) = 40 := by omega
    have n93 : ¬ (c.toNat : Int) = 93 := by omega
    have n41 : ¬ (c.toNat : Int) = 41 := by omega
    have HS := Lib.hid (stepD_no ho hz)
    by_cases hs : c.toNat = 44 ∨ c.toNat = 125
    · by_cases hd : d = 0
      · subst hd
        have HE := Lib.hid (HQ.out.inv.here HG.out hs)
        rcases hs with hs | hs
        all_goals
          have ks : (c.toNat : Int) = _ := congrArg Int.ofNat hs
          clear h34 ho hz hs
          go_wp2_with fail
          go_ret
          exact endsPost HE.out (Nat.le_of_lt HM.out) HQ.out.bel
      · have HI := Lib.hid (HQ.out.inv.plain HG.out h34 (fun h => hd h.2))
        rw [HS.out] at HI
        rcases hs with hs | hs
        all_goals
          have ks : (c.toNat : Int) = _ := congrArg Int.ofNat hs
          clear h34 ho hz hs
          go_wp2_with fail
          go_roundw
          case rel => exact ⟨m + 1, d + 0, HM.out, by go_num, by rw [Int.add_zero], HI.out, by omega, by omega, HQ.out.bel⟩
          case measure => have := HM.out; simp only [intOf]; omega
    · have HI := Lib.hid (HQ.out.inv.plain HG.out h34 (fun h => hs h.1))
      rw [HS.out] at HI
      have n44 : ¬ (c.toNat : Int) = 44 := by omega
      have n125 : ¬ (c.toNat : Int) = 125 := by omega
      clear h34 ho hz hs
      go_wp2_with fail
      go_roundw
      case rel => exact ⟨m + 1, d + 0, HM.out, by go_num, by rw [Int.add_zero], HI.out, by omega, by omega, HQ.out.bel⟩
      case measure => have := HM.out; simp only [intOf]; omega
end Go.Proofs.YtiofnjnaleglgaaGreatDoor
