/-
  Texts of mine in one file: KAtNU.
-/
import Derived.Test.YtiofnjnaleglgaaGreatDoorQUR
import Derived.Test.YtiofnjnaleglgaaGreatDoorG15
import Derived.Test.YtiofnjnaleglgaaGreatDoorG18
import Derived.Test.YtiofnjnaleglgaaGreatDoorG27
/-
  The reference's 'numbers' by its contract.
-/
namespace Go.Proofs.YtiofnjnaleglgaaGreatDoor
open Go.RowKit

/-- The numbers of a list of them without its brackets. -/
noncomputable def numsL : Nat → List UInt8 → Option (List Int)
  | 0, _ => none
  | n + 1, l => if intR (l.takeWhile notComma) = none then none
    else if l.dropWhile notComma = [] then some [(intR (l.takeWhile notComma)).getD 0]
    else if (l.dropWhile notComma).tail.head? = some 32 then (numsL n (l.dropWhile notComma).tail.tail).map ((intR (l.takeWhile notComma)).getD 0 :: ·)
    else none
noncomputable def numsR (l : List UInt8) : Option (List Int) :=
  if 2 ≤ l.length ∧ l.head? = some 91 ∧ l.getLast? = some 93 then (if l.tail.dropLast = [] then some [] else numsL (l.tail.dropLast.length + 1) l.tail.dropLast) else none
theorem nums_join : ∀ (n : Nat) (l : List UInt8) (zs : List Int), numsL n l = some zs → zs ≠ [] ∧ l = Lib.join (zs.map Lib.itoa) gap ∧ ∀ z ∈ zs, i64 z := by
  intro n
  induction n with
  | zero => intro l zs h; cases h
  | succ n ih =>
    intro l zs h
    rw [numsL] at h
    cases hi : intR (l.takeWhile notComma) with
    | none => rw [hi, if_pos rfl] at h; cases h
    | some z =>
      rw [hi, if_neg (by simp)] at h
      obtain ⟨hz, hzl⟩ := intR_sound hi
      by_cases hd : l.dropWhile notComma = []
      · rw [if_pos hd] at h
        injection h with h
        subst h
        refine ⟨by simp, ?_, fun y hy => by simp at hy; rw [hy]; exact hz⟩
        show l = Lib.join [Lib.itoa z] gap
        rw [Lib.join_one, hzl]
        conv => lhs; rw [← List.takeWhile_append_dropWhile (p := notComma) (l := l), hd, List.append_nil]
      · rw [if_neg hd] at h
        by_cases h32 : (l.dropWhile notComma).tail.head? = some 32
        · rw [if_pos h32] at h
          cases hn : numsL n (l.dropWhile notComma).tail.tail with
          | none => rw [hn] at h; cases h
          | some r =>
            rw [hn] at h
            injection h with h
            subst h
            obtain ⟨hr, hj, hall⟩ := ih _ _ hn
            refine ⟨by simp, ?_, fun y hy => ?_⟩
            · cases r with
              | nil => exact absurd rfl hr
              | cons y r =>
                show l = Lib.join (Lib.itoa z :: Lib.itoa y :: r.map Lib.itoa) gap
                rw [join_more, ← List.map_cons, ← hj, hzl]
                have hdw : l.dropWhile notComma = 44 :: 32 :: (l.dropWhile notComma).tail.tail := by
                  cases hdd : l.dropWhile notComma with
                  | nil => exact absurd hdd hd
                  | cons c t =>
                    have hc : notComma c = false := dw_head hdd
                    rw [hdd, List.tail_cons] at h32
                    cases t with
                    | nil => cases h32
                    | cons x u =>
                      rw [List.head?_cons] at h32
                      injection h32 with h32
                      have hc44 : c = 44 := by
                        refine Classical.byContradiction fun hne => ?_
                        rw [(comma_iff c).2 hne] at hc
                        cases hc
                      rw [hc44, h32]
                      rfl
                conv => lhs; rw [← List.takeWhile_append_dropWhile (p := notComma) (l := l), hdw]
                simp [gap]
            · rcases List.mem_cons.1 hy with e | e
              · rw [e]; exact hz
              · exact hall y e
        · rw [if_neg h32] at h; cases h
theorem join_nums : ∀ (zs : List Int) (n : Nat), zs ≠ [] → (∀ z ∈ zs, i64 z) → (Lib.join (zs.map Lib.itoa) gap).length < n → numsL n (Lib.join (zs.map Lib.itoa) gap) = some zs := by
  intro zs
  induction zs with
  | nil => intro n h; exact absurd rfl h
  | cons x r ih =>
    intro n _ hall hn
    have hx := hall x (by simp)
    have hxc := itoa_comma x
    have hxi := intR_some hx rfl
    cases n with
    | zero => omega
    | succ n =>
      cases r with
      | nil =>
        show numsL (n + 1) (Lib.join [Lib.itoa x] gap) = _
        rw [Lib.join_one]
        obtain ⟨h1, h2⟩ := tw_all hxc
        rw [numsL, h1, h2, hxi, if_neg (by simp), if_pos rfl]
        rfl
      | cons y r =>
        have hn' : (Lib.join (Lib.itoa x :: Lib.itoa y :: r.map Lib.itoa) gap).length < n + 1 := hn
        show numsL (n + 1) (Lib.join (Lib.itoa x :: Lib.itoa y :: r.map Lib.itoa) gap) = _
        rw [join_more] at hn' ⊢
        obtain ⟨h1, h2⟩ := tw_gap (x := Lib.itoa x) (r := Lib.join (Lib.itoa y :: r.map Lib.itoa) gap) hxc
        rw [numsL, h1, h2, hxi, if_neg (by simp), if_neg (by simp), if_pos (by simp)]
        simp only [List.cons_append, List.nil_append, List.tail_cons]
        have hi := ih n (by simp) (fun p hp => hall p (by simp at hp ⊢; exact .inr hp)) (by
          show (Lib.join (Lib.itoa y :: r.map Lib.itoa) gap).length < n
          simp only [List.length_append, List.length_cons, List.length_nil] at hn'; omega)
        rw [List.map_cons] at hi
        rw [hi]
        rfl
theorem numsR_sound {l : List UInt8} {zs : List Int} (h : numsR l = some zs) : l = intsL zs ∧ ∀ z ∈ zs, i64 z := by
  unfold numsR at h
  by_cases hc : 2 ≤ l.length ∧ l.head? = some 91 ∧ l.getLast? = some 93
  · rw [if_pos hc] at h
    obtain ⟨h2, hh, hl⟩ := hc
    have hform : l = 91 :: (l.tail.dropLast ++ [93]) := by
      cases l with
      | nil => cases hh
      | cons c t =>
        rw [List.head?_cons] at hh
        injection hh with hh
        have ht : t ≠ [] := by rintro rfl; simp at h2
        rw [List.tail_cons, hh]
        congr 1
        have : t.getLast? = some 93 := by rwa [last_cons ht] at hl
        rw [List.getLast?_eq_some_getLast ht] at this
        injection this with this
        rw [← this, List.dropLast_concat_getLast]
    by_cases he : l.tail.dropLast = []
    · rw [if_pos he] at h
      injection h with h
      subst h
      rw [he] at hform
      exact ⟨hform, fun z hz => (by cases hz)⟩
    · rw [if_neg he] at h
      obtain ⟨_, hj, hall⟩ := nums_join _ _ _ h
      rw [hj] at hform
      exact ⟨hform, hall⟩
  · rw [if_neg hc] at h; cases h
theorem numsR_ints {zs : List Int} (h : ∀ z ∈ zs, i64 z) : numsR (intsL zs) = some zs := by
  have hin : (intsL zs).tail.dropLast = Lib.join (zs.map Lib.itoa) gap := by rw [intsL, List.tail_cons, List.dropLast_concat]
  rw [numsR, if_pos ⟨by simp [intsL], rfl, by rw [intsL, last_cons (by simp), List.getLast?_concat]⟩, hin]
  cases zs with
  | nil => rfl
  | cons p ps =>
    have hs := join_nums (p :: ps) ((Lib.join ((p :: ps).map Lib.itoa) gap).length + 1) (by simp) h (Nat.lt_succ_self _)
    rw [if_neg, hs]
    intro e
    rw [e, numsL, List.takeWhile_nil, intR_none (fun z hz e => by have := (itoa_len20' hz).1; rw [e] at this; exact absurd this (Nat.lt_irrefl _)), if_pos rfl] at hs
    cases hs
def NumsPost (s : ByteArray) (w : World) (e : Ending) (w' : World) : Prop :=
  Below w.heap.size w w' ∧ ((numsR s.data.toList = none ∧ e = .returned (.tuple #[.slice none 0 0, .bool false])) ∨
    ∃ (zs : List Int) (ao : Option Addr) (c : Nat), numsR s.data.toList = some zs ∧ IntsAt w' ao zs ∧ zs.length ≤ c ∧ (∀ x, ao = some x → w.heap.size ≤ x.block) ∧ e = .returned (.tuple #[.slice ao zs.length c, .bool true]))
theorem nums_end {s : ByteArray} {w w' : World} (h : numsR s.data.toList = none) (hb : Below w.heap.size w w') : NumsPost s w (.returned (.tuple #[.slice none 0 0, .bool false])) w' := ⟨hb, .inl ⟨h, rfl⟩⟩

/-- What the reference's 'numbers' holds between two rounds. -/
structure NSt (w : World) (l0 : List UInt8) (ps : List Int) (q : ByteArray) (ao : Option Addr) (c : Nat) (wr : World) : Prop where
  own : wr.ownsRow w.heap.size 2 1 (.slice ao ps.length c) ps.length (ps.map (.int .i64))
  bel : Below w.heap.size w wr
  way : ∃ n, q.size < n ∧ numsL (l0.length + 1) l0 = (numsL n q.data.toList).map (ps ++ ·)
  few : ps.length + q.size ≤ 1048576
  more : 0 < q.size ∨ 0 < ps.length
section
variable {w : World} {l0 : List UInt8} {ps : List Int} {q : ByteArray} {ao : Option Addr} {c : Nat} {wr : World}
theorem NSt.start (hq : q.size ≤ 1048576) (h0 : 0 < q.size) : NSt w q.data.toList [] q none 0 w :=
  ⟨⟨rfl, .inl ⟨rfl, rfl⟩⟩, Below.refl _ _, ⟨q.data.toList.length + 1, by simp, by simp⟩, by simpa using hq, .inl h0⟩
theorem NSt.notInt (h : NSt w l0 ps q ao c wr) (ht : intR (q.data.toList.takeWhile notComma) = none) : numsL (l0.length + 1) l0 = none := by
  obtain ⟨n, hn, e⟩ := h.way
  obtain ⟨k, rfl⟩ : ∃ k, n = k + 1 := ⟨n - 1, by omega⟩
  rw [e, numsL, if_pos ht]
  rfl
theorem NSt.noGap (h : NSt w l0 ps q ao c wr) (hd : ¬ q.data.toList.dropWhile notComma = []) (h32 : ¬ (q.data.toList.dropWhile notComma).tail.head? = some 32) : numsL (l0.length + 1) l0 = none := by
  obtain ⟨n, hn, e⟩ := h.way
  obtain ⟨k, rfl⟩ : ∃ k, n = k + 1 := ⟨n - 1, by omega⟩
  rw [e, numsL, if_neg hd, if_neg h32, ite_self]
  rfl
theorem NSt.last (h : NSt w l0 ps q ao c wr) {z : Int} (ht : intR q.data.toList = some z) (ha : q.data.toList.all notComma = true) : numsL (l0.length + 1) l0 = some (ps ++ [z]) := by
  obtain ⟨n, hn, e⟩ := h.way
  obtain ⟨k, rfl⟩ : ∃ k, n = k + 1 := ⟨n - 1, by omega⟩
  obtain ⟨h1, h2⟩ := tw_all ha
  rw [e, numsL, h1, h2, ht, if_neg (by simp), if_pos rfl]
  rfl
theorem NSt.next (h : NSt w l0 ps q ao c wr) {m : Nat} (hm : m + 1 < q.size) (hst : q.data.toList.takeWhile notComma = q.data.toList.take m ∧ q.data.toList.dropWhile notComma = q[m]'(by omega) :: q.data.toList.drop (m + 1))
    {z : Int} (ht : intR (q.data.toList.take m) = some z) (h32 : q[m + 1]'hm = 32) {ao' : Option Addr} {c' : Nat} {w2 : World}
    (hown : w2.ownsRow w.heap.size 2 1 (.slice ao' (ps ++ [z]).length c') (ps ++ [z]).length ((ps ++ [z]).map (.int .i64))) (hb : Below w.heap.size wr w2) :
    NSt w l0 (ps ++ [z]) (q.extract (m + 2) q.size) ao' c' w2 := by
  have hl : m + 1 < q.data.toList.length := by simpa using hm
  have hd : q.data.toList.drop (m + 1) = 32 :: q.data.toList.drop (m + 2) := by
    rw [List.drop_eq_getElem_cons hl]
    exact congrArg (· :: _) h32
  refine ⟨hown, h.bel.trans hb, ?_, ?_, .inr (by simp)⟩
  · obtain ⟨n, hn, e⟩ := h.way
    obtain ⟨k, rfl⟩ : ∃ k, n = k + 1 := ⟨n - 1, by omega⟩
    refine ⟨k, by rw [ByteArray.size_extract]; omega, ?_⟩
    rw [e, numsL, hst.1, hst.2, ht, if_neg (by simp), if_neg (by simp), List.tail_cons, hd, List.head?_cons, if_pos rfl, List.tail_cons, back_extract]
    cases numsL k (q.data.toList.drop (m + 2)) with
    | none => rfl
    | some z => simp
  · have := h.few
    rw [ByteArray.size_extract, List.length_append, List.length_singleton]
    omega
theorem NSt.empty (h : NSt w l0 ps q ao c wr) : q.toList.isEmpty = false ∨ (q.toList.isEmpty = true ∧ 0 < ps.length) := by
  cases hq : q.toList.isEmpty
  · exact .inl rfl
  · refine .inr ⟨rfl, h.more.resolve_left fun h0 => ?_⟩
    have he := empty_of hq
    rw [size_eq, he] at h0
    exact absurd h0 (Nat.lt_irrefl _)
end
theorem own_i64_cap {w : World} {B n : Nat} {ao : Option Addr} {c : Nat} {es : List Value} (h : w.ownsRow B 2 1 (.slice ao n c) n es) : n ≤ c := own_cap h
theorem own_fresh {w : World} {B n sz : Nat} {e : TypeId} {ao : Option Addr} {c : Nat} {es : List Value} (h : w.ownsRow B e sz (.slice ao n c) n es) : ∀ x, ao = some x → B ≤ x.block := fun x e => by
  subst e
  exact (h.lt x.block rfl).1
theorem nums_yes {s : ByteArray} {ps : List Int} {z : Int} {w w' : World} {ao : Option Addr} {c : Nat} (h : numsR s.data.toList = some (ps ++ [z])) (hb : Below w.heap.size w w') (hst : IntsAt w' ao (ps ++ [z])) (hc : ps.length + 1 ≤ c) (hf : ∀ x, ao = some x → w.heap.size ≤ x.block) : NumsPost s w (.returned (.tuple #[.slice ao (ps.length + 1) c, .bool true])) w' :=
  ⟨hb, .inr ⟨ps ++ [z], ao, c, h, hst, by rw [List.length_append, List.length_singleton]; exact hc, hf, by rw [List.length_append, List.length_singleton]⟩⟩

set_option maxHeartbeats 16000000 in
set_option maxRecDepth 100000 in
theorem Rnumbers_any (s : ByteArray) (hs : s.size ≤ 1048576) (w : World) : Calls Tryz.prog 61 #[.string s] w (NumsPost s w) := by
  by_cases h2 : s.size < 2
  · have hr := Lib.hid (show numsR s.data.toList = none by rw [numsR, if_neg (by intro h; have := h.1; simp at this; omega)])
    go_enter Tryz.func61, Tryz.ntmps61
    go_wp2_with fail
    go_ret2
    exact nums_end hr.out (Below.refl _ _)
  have h0 : 0 < s.size := by omega
  have hlast : s.size - 1 < s.size := by omega
  have h2i : 2 ≤ (s.size : Int) := by omega
  have h2d : decide ((s.size : Int) < 2) = false := decide_eq_false (by omega)
  cases hb0 : (((s[0]'h0).toNat : Int) != 91)
  rotate_left
  · have hr := Lib.hid (show numsR s.data.toList = none by
      rw [numsR, if_neg]
      rintro ⟨_, h, _⟩
      rw [head_at s h0] at h
      exact byte_ne (x := 91) (by decide) hb0 (Option.some.inj h))
    go_enter Tryz.func61, Tryz.ntmps61
    go_wp2_with fail
    go_ret2
    exact nums_end hr.out (Below.refl _ _)
  cases hb1 : (((s[s.size - 1]'hlast).toNat : Int) != 93)
  rotate_left
  · have hr := Lib.hid (show numsR s.data.toList = none by
      rw [numsR, if_neg]
      rintro ⟨_, _, h⟩
      rw [last_at hlast] at h
      exact byte_ne (x := 93) (by decide) hb1 (Option.some.inj h))
    go_enter Tryz.func61, Tryz.ntmps61
    go_wp2_with fail
    go_ret2
    exact nums_end hr.out (Below.refl _ _)
  have hin := inner_extract s
  have hsp : numsR s.data.toList = if (s.extract 1 (s.size - 1)).data.toList = [] then some [] else numsL ((s.extract 1 (s.size - 1)).data.toList.length + 1) (s.extract 1 (s.size - 1)).data.toList := by
    rw [numsR, if_pos ⟨by simp; omega, by rw [head_at s h0, byte_is (x := 91) (by decide) hb0], by rw [last_at hlast, byte_is (x := 93) (by decide) hb1]⟩, hin]
  clear hin
  have hqs : (s.extract 1 (s.size - 1)).size ≤ 1048576 := by rw [ByteArray.size_extract]; omega
  by_cases hq0 : (s.extract 1 (s.size - 1)).size = 0
  · have hr := Lib.hid (show numsR s.data.toList = some [] by
      rw [hsp, if_pos (by rw [size_eq] at hq0; exact List.eq_nil_of_length_eq_zero hq0)])
    have HQ := Lib.hid hq0
    clear hsp hq0 hqs
    go_enter Tryz.func61, Tryz.ntmps61
    go_wp2_with fail
    go_loopw [0, 4] (fun q o wr => ∃ q' : ByteArray, q = .string q' ∧ o = .slice none 0 0 ∧ Hid (q'.size = 0) ∧ wr = w) (fun q _ _ => strLen q)
    case atStart => exact ⟨_, rfl, rfl, HQ, rfl⟩
    case round =>
      obtain ⟨q, rfl, rfl, hq, rfl⟩ := hrel
      cases hqe : q.toList.isEmpty
      · have := nonempty_of hqe
        have h := hq.out
        rw [size_eq] at h
        exact absurd (List.eq_nil_of_length_eq_zero h) this
      · go_wp2_with fail
        go_ret2
        exact ⟨Below.refl _ _, .inr ⟨[], none, 0, hr.out, .inl rfl, Nat.le_refl _, fun _ e => (by cases e), rfl⟩⟩
  · rw [if_neg (fun e => hq0 (by rw [size_eq, e]; rfl))] at hsp
    have hst : Hid (NSt w (s.extract 1 (s.size - 1)).data.toList [] (s.extract 1 (s.size - 1)) none 0 w) := NSt.start hqs (by omega)
    obtain ⟨l0, hl0⟩ : ∃ l0, l0 = (s.extract 1 (s.size - 1)).data.toList := ⟨_, rfl⟩
    rw [← hl0] at hst hsp
    have HSP := Lib.hid hsp
    clear hl0 hsp hq0 hqs
    go_enter Tryz.func61, Tryz.ntmps61
    go_wp2_with fail
    go_loopw [0, 4] (fun q o wr => ∃ (q' : ByteArray) (ps : List Int) (ao : Option Addr) (cp : Nat), q = .string q' ∧ o = .slice ao ps.length cp ∧ Hid (NSt w l0 ps q' ao cp wr)) (fun q _ _ => strLen q)
    case atStart => exact ⟨_, [], none, 0, rfl, rfl, hst⟩
    case round =>
      clear hst
      obtain ⟨q, ps, ao, cp, rfl, rfl, HS⟩ := hrel
      have hfew := HS.out.few
      rcases HS.out.empty with hqe | ⟨hqe, hps⟩
      all_goals
        go_wp2_with fail
        go_loopw [5] (fun i w2 => ∃ m : Nat, m ≤ q.size ∧ i = .int .i64 m ∧ Hid ((q.data.toList.take m).all notComma = true) ∧ w2 = wr) (fun i _ => q.size - (intOf i).toNat)
        case atStart => exact ⟨0, Nat.zero_le _, rfl, rfl, rfl⟩
        case round =>
          obtain ⟨m, hms, rfl, hall, rfl⟩ := hrel
          by_cases hlt : m < q.size
          · have hbm := (q[m]'hlt).toNat_lt
            cases hx : (((q[m]'hlt).toNat : Int) != 44)
            · have hst := Lib.hid (stop_at hall.out hlt (notComma_at hx))
              have hmne : ((m : Int) == (q.size : Int)) = false := by rw [beq_eq_false_iff_ne]; omega
              go_wp2_with fail
              refine (Rinteger_any (q.extract 0 m) _).mono ?_
              rintro e w2 ⟨rfl, (⟨z, hty, rfl⟩ | ⟨hty, z, rfl⟩)⟩
              all_goals
                have HS2 := HS
                rw [front_extract] at hty
              rotate_left
              · have hy := Lib.hid (HSP.out.trans (HS.out.notInt (by rw [hst.out.1]; exact hty)))
                clear hty
                go_wp2_with fail
                go_ret2
                exact nums_end hy.out HS2.out.bel
              · have HTY := Lib.hid hty
                clear hty
                by_cases hm1 : m + 1 < q.size
                · have hb32 := (q[m + 1]'hm1).toNat_lt
                  cases h32 : (((q[m + 1]'hm1).toNat : Int) != 32)
                  · have h32e := byte_is (x := 32) (by decide) h32
                    have H32 := Lib.hid h32e
                    clear h32e
                    go_wp2_with (at_builtin; refine wp_append_i64 (n := z) rfl _ _ rfl HS2.out.own HS2.out.bel.size (by omega) rfl rfl ?_; intro ao' c' w3 hown hbel _; have HOWN := Lib.hid hown; have HBEL := Lib.hid hbel; clear hown hbel)
                    go_roundw
                    case rel => exact ⟨_, ps ++ [z], ao', c', rfl, by rw [List.length_append, List.length_singleton], HS2.out.next hm1 hst.out HTY.out H32.out HOWN.out HBEL.out⟩
                    case measure => simp only [strLen, ByteArray.size_extract]; omega
                  · have hy := Lib.hid (HSP.out.trans (HS.out.noGap (by rw [hst.out.2]; simp) (by
                      rw [hst.out.2, List.tail_cons, List.drop_eq_getElem_cons (by simpa using hm1), List.head?_cons]
                      exact fun h => byte_ne (x := 32) (by decide) h32 (Option.some.inj h))))
                    go_wp2_with (at_builtin; refine wp_append_i64 (n := z) rfl _ _ rfl HS2.out.own HS2.out.bel.size (by omega) rfl rfl ?_; intro ao' c' w3 hown hbel _; have HBEL := Lib.hid (HS2.out.bel.trans hbel); clear hown hbel)
                    all_goals
                      go_ret2
                      exact nums_end hy.out HBEL.out
                · have hy := Lib.hid (HSP.out.trans (HS.out.noGap (by rw [hst.out.2]; simp) (by
                    rw [hst.out.2, List.tail_cons, List.drop_of_length_le (by simp; omega)]
                    simp)))
                  go_wp2_with (at_builtin; refine wp_append_i64 (n := z) rfl _ _ rfl HS2.out.own HS2.out.bel.size (by omega) rfl rfl ?_; intro ao' c' w3 hown hbel _; have HBEL := Lib.hid (HS2.out.bel.trans hbel); clear hown hbel)
                  go_ret2
                  exact nums_end hy.out HBEL.out
            · have hnx := Lib.hid (notComma_at hx)
              go_wp2_with fail
              go_roundw
              case rel => exact ⟨m + 1, by omega, by go_num, all_step hall.out hlt hnx.out, trivial⟩
              case measure => simp [intOf]; omega
          · obtain rfl : m = q.size := by omega
            have hal := hall.out
            rw [List.take_of_length_le (by simp)] at hal
            have HAL := Lib.hid hal
            clear hal
            go_wp2_with fail
            refine (Rinteger_any q _).mono ?_
            rintro e w2 ⟨rfl, (⟨z, hty, rfl⟩ | ⟨hty, z, rfl⟩)⟩
            all_goals
              have HS2 := HS
            rotate_left
            · have hy := Lib.hid (HSP.out.trans (HS.out.notInt (by rw [(tw_all HAL.out).1]; exact hty)))
              clear hty
              go_wp2_with fail
              go_ret2
              exact nums_end hy.out HS2.out.bel
            · have hy := Lib.hid (HSP.out.trans (HS.out.last hty HAL.out))
              clear hty
              go_wp2_with (at_builtin; refine wp_append_i64 (n := z) rfl _ _ rfl HS2.out.own HS2.out.bel.size (by omega) rfl rfl ?_; intro ao' c' w3 hown hbel _; have HST := Lib.hid (own_i64 hown rfl); have HCP := Lib.hid (own_i64_cap hown); have HFR := Lib.hid (own_fresh hown); have HBEL := Lib.hid (HS2.out.bel.trans hbel); clear hown hbel)
              go_ret2
              exact nums_yes hy.out HBEL.out HST.out (by have h := HCP.out; rw [List.length_append, List.length_singleton] at h; exact h) HFR.out


end Go.Proofs.YtiofnjnaleglgaaGreatDoor
