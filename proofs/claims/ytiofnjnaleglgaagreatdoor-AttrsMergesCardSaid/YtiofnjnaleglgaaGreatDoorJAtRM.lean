/-
  The reference's 'Merge' by its contract.
-/
import Derived.Test.YtiofnjnaleglgaaGreatDoorJAtRS
namespace Go.Proofs.YtiofnjnaleglgaaGreatDoor
open Go.RowKit

theorem low_first {y : At} {m : List At} (h : ∀ z ∈ m, lessB y.name z.name = true) (t : List At) : mergeL (y :: t) m = y :: mergeL t m := by
  cases m with
  | nil => rw [mergeL_nil_r, mergeL_nil_r]
  | cons z m => exact mergeL_lt (cmpA_lt.2 (h z (List.mem_cons_self ..)))
theorem one_then {y : At} {m : List At} (h : ∀ z ∈ m, lessB y.name z.name = true) : ∀ l : List At, mergeL (mergeL l [y]) m = mergeL l (y :: m)
  | [] => by rw [one_nil, mergeL_nil, low_first h, mergeL_nil]
  | x :: l => by
    rcases three x y with hx | hx | hx
    · rw [one_lt hx, mergeL_lt hx, low_first (fun z hz => lessB_trans (cmpA_lt.1 hx) (h z hz)), one_then h l]
    · rw [one_eq hx, mergeL_eq hx, low_first h]
    · rw [one_gt hx, mergeL_gt hx, low_first h]
/-- All of a list set, one after another. -/
def foldS (l m : List At) : List At := m.foldl (fun o x => setR x false o) l
theorem foldS_merge : ∀ (m l : List At), Rise m → Rise l → foldS l m = mergeL l m
  | [], l, _, _ => (mergeL_nil_r l).symm
  | y :: m, l, hm, hl => by
    show foldS (setR y false l) m = _
    rw [setR_merge y l hl, foldS_merge m _ hm.2 (one_rise hl), one_then hm.1]
theorem setR_le (a : At) : ∀ (d : Bool) (l : List At), (setR a d l).length ≤ l.length + 1 ∧ (d = true → (setR a d l).length ≤ l.length)
  | d, [] => by cases d <;> simp [setR]
  | d, x :: l => by
    have h1 := setR_le a (d || !lessB x.name a.name) l
    rw [setR]
    cases d with
    | true =>
      have h2 := h1.2 rfl
      by_cases he : x.name = a.name
      · simp [he] at h2 ⊢; omega
      · simp [he] at h2 ⊢; omega
    | false =>
      cases hb : lessB x.name a.name with
      | true =>
        have h2 := h1.1
        rw [hb] at h2
        by_cases he : x.name = a.name
        · simp [he] at h2 ⊢; omega
        · simp [he] at h2 ⊢; omega
      | false =>
        have h2 := h1.2 (by rw [hb]; rfl)
        rw [hb] at h2
        by_cases he : x.name = a.name
        · simp [he] at h2 ⊢; omega
        · simp [he] at h2 ⊢; omega
theorem foldS_le : ∀ (m l : List At), (foldS l m).length ≤ l.length + m.length
  | [], l => Nat.le_refl _
  | y :: m, l => by
    have h1 := foldS_le m (setR y false l)
    have h2 := (setR_le y false l).1
    show (foldS (setR y false l) m).length ≤ _
    rw [List.length_cons]
    omega
theorem foldS_snoc (l m : List At) {q : Nat} (hq : q < m.length) : setR (nth m q) false (foldS l (m.take q)) = foldS l (m.take (q + 1)) := by
  rw [nth_get hq, List.take_succ_eq_append_getElem hq]
  unfold foldS
  rw [List.foldl_append]
  rfl

set_option maxHeartbeats 4000000 in
set_option maxRecDepth 100000 in
theorem RMerge_any (so so' : Option Addr) (l m : List At) (c c' : Nat) (hn : l.length + m.length ≤ 1000) (hc : l.length ≤ c) (w : World) (hl : ListAt w so l) (hm : ListAt w so' m) :
    Calls Tryz.prog 25 #[.slice so l.length c, .slice so' m.length c'] w fun e w' => ∃ (ro : Option Addr) (rc : Nat), e = .returned (.slice ro (foldS l m).length rc) ∧ (foldS l m).length ≤ rc ∧ ListAt w' ro (foldS l m) ∧ Below w.heap.size w w' := by
  have HL := Lib.hid hl
  have HM := Lib.hid hm
  have HC := Lib.hid hc
  clear hl hm hc
  go_enter Tryz.func25, Tryz.ntmps25
  go_wp2_with fail
  go_loopw [5, 6] (fun o i wr => ∃ (q : Nat) (xo : Option Addr) (rc : Nat), q ≤ m.length ∧ i = .int .i64 q ∧ o = .slice xo (foldS l (m.take q)).length rc ∧ Hid ((foldS l (m.take q)).length ≤ rc ∧ ListAt wr xo (foldS l (m.take q)) ∧ Below w.heap.size w wr)) (fun _ i _ => m.length - (intOf i).toNat)
  case atStart => exact ⟨0, so, c, Nat.zero_le _, rfl, rfl, HC.out, HL.out, Below.refl _ _⟩
  case round =>
    obtain ⟨q, xo, rc, hq, rfl, rfl, hh⟩ := hrel
    by_cases hlt : q < m.length
    · rcases HM.out.below hh.out.2.2 with h0 | ⟨bk, o, rfl, hcc⟩
      · rw [h0] at hlt; exact absurd hlt (Nat.not_lt_zero _)
      obtain ⟨bi, bci, bo, bct, hel⟩ := hcc q hlt
      have E0 := Lib.hid hel
      have HQ := Lib.hid (show q < m.length from hlt)
      have HS := Lib.hid (foldS_snoc l m hlt)
      have HLE := Lib.hid (show (foldS l (m.take q)).length ≤ 1000 by have := foldS_le (m.take q) l; rw [List.length_take] at this; omega)
      have HLI := Lib.hid hh.out.2.1
      have BEL := Lib.hid hh.out.2.2
      have hqi : (q : Int) < (m.length : Int) := by omega
      have hqb : (q : Int) ≤ 1000 := by omega
      clear hcc hel hh hn
      generalize nth m q = x at E0 HS
      generalize foldS l (m.take q) = ol at HLE HLI HS ⊢
      have c0 := E0.out.c0
      have c1 := E0.out.c1
      have c2 := E0.out.c2
      have c3 := E0.out.c3
      have c4 := E0.out.c4
      have c5 := E0.out.c5
      go_wp2_with fail
      refine (RSet_any xo ol rc x _ bi bci bo bct HLE.out wr HLI.out E0.out.att).mono ?_
      rintro e w1 ⟨ro, rc', rfl, hrc, hli, hb⟩
      have HL1 := Lib.hid hli
      have HR1 := Lib.hid hrc
      have B1 := Lib.hid (BEL.out.trans (hb.mono BEL.out.size))
      rw [HS.out] at HL1 HR1 ⊢
      clear hli hrc hb c0 c1 c2 c3 c4 c5 E0 BEL
      go_wp2_with fail
      go_roundw
      case rel => exact ⟨q + 1, ro, rc', by have := HQ.out; omega, by go_num, rfl, HR1.out, HL1.out, B1.out⟩
      case measure => have := HQ.out; simp only [intOf]; omega
    · obtain rfl : q = m.length := by omega
      rw [List.take_length] at hh ⊢
      go_wp2_with fail
      go_ret
      exact ⟨xo, rc, rfl, hh.out.1, hh.out.2.1, hh.out.2.2⟩
end Go.Proofs.YtiofnjnaleglgaaGreatDoor
