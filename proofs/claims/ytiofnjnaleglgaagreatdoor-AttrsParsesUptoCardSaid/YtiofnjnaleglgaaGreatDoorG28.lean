/-
  Texts of mine in one file: AtLA, AtLB, AtLC, AtLD, AtLE, AtLF, AtLG.
-/
import Derived.Test.YtiofnjnaleglgaaGreatDoorG27
import Derived.Deep.RegionWith
import Derived.Deep.Cut
import Derived.Deep.DeepCutAuto
import Derived.BigQuiet
import Derived.StillTail
import Derived.BigGuardPart
import Derived.BigCall
import Derived.Test.YtiofnjnaleglgaaGreatDoorG15
import Derived.Laws.MakeOwn
import Derived.Laws.CopyOwn
/-
  Lists of attributes in memory, and when one is right.
-/
namespace Go.Proofs.YtiofnjnaleglgaaGreatDoor
open Go.RowKit Go.BigFrame

/-- The cells from one on are an attribute's. -/
structure ElAt (w : World) (bk p : Nat) (a : At) (ai : Option Addr) (ci : Nat) (ao : Option Addr) (ct : Nat) : Prop where
  c0 : w.cell? ⟨bk, p, none⟩ = some (.string a.name)
  c1 : w.cell? ⟨bk, p + 1, none⟩ = some (.int .i64 a.kind)
  c2 : w.cell? ⟨bk, p + 2, none⟩ = some (.int .i64 a.num)
  c3 : w.cell? ⟨bk, p + 3, none⟩ = some (.string a.text)
  c4 : w.cell? ⟨bk, p + 4, none⟩ = some (.slice ai a.ints.length ci)
  c5 : w.cell? ⟨bk, p + 5, none⟩ = some (.slice ao a.texts.length ct)
  ints : IntsAt w ai a.ints
  texts : StrsAt w ao a.texts
  icap : a.ints.length ≤ ci
  tcap : a.texts.length ≤ ct
  wf : a.Wf
theorem ElAt.below {w w' : World} {bk p : Nat} {a : At} {ai : Option Addr} {ci : Nat} {ao : Option Addr} {ct : Nat} (h : ElAt w bk p a ai ci ao ct) (hb : Below w.heap.size w w') : ElAt w' bk p a ai ci ao ct := by
  have hc : ∀ {x : Addr} {v : Value}, w.cell? x = some v → w'.cell? x = some v := fun hx => (hb.cell (block_lt_of_cell hx)).trans hx
  exact ⟨hc h.c0, hc h.c1, hc h.c2, hc h.c3, hc h.c4, hc h.c5, h.ints.below hb, h.texts.below hb, h.icap, h.tcap, h.wf⟩
theorem ElAt.att {w : World} {bk p : Nat} {a : At} {ai : Option Addr} {ci : Nat} {ao : Option Addr} {ct : Nat} (h : ElAt w bk p a ai ci ao ct) :
    AttAt w a (.agg #[.string a.name, .int .i64 a.kind, .int .i64 a.num, .string a.text, .slice ai a.ints.length ci, .slice ao a.texts.length ct]) ai ci ao ct := ⟨rfl, h.ints, h.texts, h.icap, h.tcap, h.wf⟩
/-- The j-th one. -/
abbrev nth (l : List At) (j : Nat) : At := l[j]?.getD At.zero
/-- A slice holds these attributes. -/
def ListAt (w : World) (so : Option Addr) (l : List At) : Prop := l = [] ∨ ∃ bk o, so = some ⟨bk, o, none⟩ ∧ ∀ j, j < l.length → ∃ ai ci ao ct, ElAt w bk (o + j * 6) (nth l j) ai ci ao ct
theorem ListAt.below {w w' : World} {so : Option Addr} {l : List At} (h : ListAt w so l) (hb : Below w.heap.size w w') : ListAt w' so l := by
  rcases h with h | ⟨bk, o, e, hc⟩
  · exact .inl h
  · exact .inr ⟨bk, o, e, fun j hj => by obtain ⟨ai, ci, ao, ct, he⟩ := hc j hj; exact ⟨ai, ci, ao, ct, he.below hb⟩⟩

def lessB (a b : ByteArray) : Bool := Op.bytesLess a.toList b.toList
/-- Whether the j-th attribute is right and behind the one before. -/
def goodAt (l : List At) (j : Nat) : Bool := rightB (nth l j) && (decide (j = 0) || lessB (nth l (j - 1)).name (nth l j).name)
/-- Whether a list is right. -/
def rightL (l : List At) : Bool := decide (l.length ≤ 100) && (List.range l.length).all (goodAt l)
theorem rightL_iff (l : List At) : rightL l = true ↔ l.length ≤ 100 ∧ ∀ j, j < l.length → goodAt l j = true := by
  unfold rightL
  rw [Bool.and_eq_true, decide_eq_true_iff, List.all_eq_true]
  simp only [List.mem_range]
theorem rightL_bad {l : List At} {j : Nat} (hj : j < l.length) (h : goodAt l j = false) : rightL l = false := by
  cases hr : rightL l with
  | false => rfl
  | true => exact absurd (((rightL_iff l).1 hr).2 j hj) (by rw [h]; decide)
theorem nth_mem {l : List At} {a : At} (h : a ∈ l) : ∃ j, j < l.length ∧ nth l j = a := by
  obtain ⟨j, hj, rfl⟩ := List.mem_iff_getElem.1 h
  exact ⟨j, hj, by unfold nth; rw [List.getElem?_eq_getElem hj]; rfl⟩
theorem rightL_all {l : List At} (h : rightL l = true) : ∀ a ∈ l, rightB a = true := by
  intro a ha
  obtain ⟨j, hj, rfl⟩ := nth_mem ha
  have := ((rightL_iff l).1 h).2 j hj
  unfold goodAt at this
  rw [Bool.and_eq_true] at this
  exact this.1

/-- A quiet walk over the head of a region is a still one. -/
theorem still_of_quiet {P : Program} {ops : Array Oper} {w : World} {Q : Act → Prop} : ∀ (l : List Oper) (a : Act), wpQuiet P ops (fun w' => w' = w) Q l a → wpStill P ops w Q l a
  | [], a, h => h
  | o :: rest, a, h => by
    unfold wpQuiet at h
    unfold wpStill
    split
    · rename_i hw
      rw [if_pos hw] at h
      obtain ⟨v, hv, hn⟩ := h
      have hq := hv w rfl
      have ih := still_of_quiet (P := P) (ops := ops) (w := w) (Q := Q) rest
      unfold Oper.quietAt Oper.quietUpon at hq
      unfold Oper.still Oper.stillUpon
      split at hq
      · rename_i e
        rw [e]
        exact ⟨hq.1, by rw [hq.2]; exact ih _ hn⟩
      · rename_i e
        rw [e]
        exact ⟨hq.1, by rw [← hq.2]; exact ih _ hn⟩
      · rename_i e
        rw [e]
        exact ⟨hq.1, v, hq.2, ih _ hn⟩
      · exact hq.elim
    · rename_i hw
      rw [if_neg hw] at h
      exact still_of_quiet rest _ h

set_option maxHeartbeats 2000000 in
set_option maxRecDepth 100000 in
theorem isRightList_any (so : Option Addr) (l : List At) (c : Nat) (hn : l.length ≤ 9223372036854775807) (w : World) (hl : ListAt w so l) (hE : Env w) :
    Calls Tryz.prog 37 #[.slice so l.length c] w fun e w' => e = .returned (.bool (rightL l)) ∧ Below w.heap.size w w' := by
  have HE := Lib.hid hE
  have HL := Lib.hid hl
  clear hE hl
  by_cases h100 : l.length ≤ 100
  rotate_left
  · have hx : (100 : Int) < (l.length : Int) := by omega
    have hf := Lib.hid (show rightL l = false by unfold rightL; rw [decide_eq_false h100]; rfl)
    go_enter Tryz.func37, Tryz.ntmps37
    go_wp2_with fail
    go_ret
    exact ⟨by rw [hf.out]; rfl, Below.refl _ _⟩
  have hx : ¬ (100 : Int) < (l.length : Int) := by omega
  go_enter Tryz.func37, Tryz.ntmps37
  go_wp2_with fail
  go_loopw [10, 3, 4] (fun i _ _ wr => ∃ q : Nat, q ≤ l.length ∧ i = .int .i64 q ∧ Hid ((∀ j, j < q → goodAt l j = true) ∧ Below w.heap.size w wr)) (fun i _ _ _ => l.length - (intOf i).toNat)
  case atStart => exact ⟨0, Nat.zero_le _, rfl, fun j hj => absurd hj (Nat.not_lt_zero _), Below.refl _ _⟩
  case round =>
    obtain ⟨q, hq, rfl, hh⟩ := hrel
    by_cases hlt : q < l.length
    · rcases HL.out.below hh.out.2 with h0 | ⟨bk, o, rfl, hc⟩
      · rw [h0] at hlt; exact absurd hlt (Nat.not_lt_zero _)
      obtain ⟨ai, ci, ao, ct, hel⟩ := hc q hlt
      have hprev := hc (q - 1)
      have HPR := Lib.hid hprev
      have HEL := Lib.hid hel
      have HG := Lib.hid (show goodAt l q = (rightB (nth l q) && (decide (q = 0) || lessB (nth l (q - 1)).name (nth l q).name)) from rfl)
      clear hc hprev hel
      generalize nth l q = a at HEL HG
      have c0 := HEL.out.c0
      have c1 := HEL.out.c1
      have c2 := HEL.out.c2
      have c3 := HEL.out.c3
      have c4 := HEL.out.c4
      have c5 := HEL.out.c5
      have B0 := Lib.hid (hh.out.2)
      have T1 := Lib.hid (heap_alloc_new wr (.cells #[.string a.name, .int .i64 a.kind, .int .i64 a.num, .string a.text, .slice ai a.ints.length ci, .slice ao a.texts.length ct] 29))
      have B1 := Lib.hid (hh.out.2.alloc hh.out.2.size (.cells #[.string a.name, .int .i64 a.kind, .int .i64 a.num, .string a.text, .slice ai a.ints.length ci, .slice ao a.texts.length ct] 29))
      have hA := Lib.hid (HEL.out.att.below (alloc_below wr (.cells #[.string a.name, .int .i64 a.kind, .int .i64 a.num, .string a.text, .slice ai a.ints.length ci, .slice ao a.texts.length ct] 29)))
      by_cases hq0 : q = 0
      · subst hq0
        simp only [Nat.zero_mul, Nat.add_zero] at c0 c1 c2 c3 c4 c5
        go_upto_region 6 with fail
        rw [show ((0 : Nat) : Int) = 0 from rfl]
        generalize wr.alloc (.cells #[.string a.name, .int .i64 a.kind, .int .i64 a.num, .string a.text, .slice ai a.ints.length ci, .slice ao a.texts.length ct] 29) = W1 at T1 B1 hA ⊢
        generalize wr.heap.size = D at T1 ⊢
        clear c0 c1 c2 c3 c4 c5
        obtain ⟨d0, d1, d2, d3, d4, d5, df⟩ := cells6 T1.out
        have BD := Lib.hid B1.out.drew
        have AD := Lib.hid (show AttAt W1.drew a _ ai ci ao ct from ⟨hA.out.val, hA.out.ints, hA.out.texts, hA.out.icap, hA.out.tcap, hA.out.wf⟩)
        refine wp_region_still_tail 15 (by kernel_rfl) (by kernel_rfl) ?_
        simp only [List.take_succ_cons, List.take_zero, List.drop_succ_cons, List.drop_zero]
        refine still_of_quiet _ _ ?_
        repeat (go_big_quiet_step (fail))
        refine wpQuiet_nil ?_
        change wpList _ _ _ _ _ W1.drew
        clear T1 B1 hA d0 d1 d2 d3 d4 d5 df
        go_wp2_with fail
        refine (isRight_any a _ ai ci ao ct W1.drew AD.out (HE.out.below BD.out)).mono ?_
        rintro e w2 ⟨rfl, hb⟩
        have B2 := Lib.hid (BD.out.trans (hb.mono BD.out.size))
        have B3 := Lib.hid (B2.out)
        clear hb BD AD
        have HPR' := HPR
        clear HPR HEL B0
        cases hr : rightB a with
        | false =>
          have hf := Lib.hid (show rightL l = false from rightL_bad hlt (by rw [HG.out, hr]; rfl))
          clear HG hh
          go_wp2_with fail
          go_ret
          exact ⟨by rw [hf.out]; rfl, B2.out⟩
        | true =>
          have hg := Lib.hid (show goodAt l 0 = true by rw [HG.out, hr]; rfl)
          clear HG hh
          go_wp2_with fail
          go_roundw
          · exact ⟨1, by omega, rfl, fun j hj => by obtain rfl : j = 0 := by omega
                                                    exact hg.out, B2.out⟩
          · simp only [intOf]; omega
      · obtain ⟨p, rfl⟩ : ∃ p, q = p + 1 := ⟨q - 1, by omega⟩
        obtain ⟨bi, bci, bo, bct, hpe⟩ := HPR.out (by omega)
        rw [show p + 1 - 1 = p from rfl] at hpe HG
        have p0 := hpe.c0
        generalize (nth l p).name = pn at p0 HG
        clear hpe HPR
        have hp0 : (0 : Int) < ((p + 1 : Nat) : Int) := by omega
        have pb := p0
        go_upto_region 6 with fail
        have p1 : (wr.alloc (.cells #[.string a.name, .int .i64 a.kind, .int .i64 a.num, .string a.text, .slice ai a.ints.length ci, .slice ao a.texts.length ct] 29)).cell? ⟨bk, o + p * 6, none⟩ = some (.string pn) := ((alloc_below wr _).cell (block_lt_of_cell p0)).trans p0
        generalize wr.alloc (.cells #[.string a.name, .int .i64 a.kind, .int .i64 a.num, .string a.text, .slice ai a.ints.length ci, .slice ao a.texts.length ct] 29) = W1 at T1 B1 hA p1 ⊢
        generalize wr.heap.size = D at T1 ⊢
        clear c0 c1 c2 c3 c4 c5 p0 pb HEL
        obtain ⟨d0, d1, d2, d3, d4, d5, df⟩ := cells6 T1.out
        have BD := Lib.hid B1.out.drew
        have AD := Lib.hid (show AttAt W1.drew a _ ai ci ao ct from ⟨hA.out.val, hA.out.ints, hA.out.texts, hA.out.icap, hA.out.tcap, hA.out.wf⟩)
        refine wp_region_still_tail 15 (by kernel_rfl) (by kernel_rfl) ?_
        simp only [List.take_succ_cons, List.take_zero, List.drop_succ_cons, List.drop_zero]
        refine still_of_quiet _ _ ?_
        repeat (go_big_quiet_step (fail))
        have hz := Lib.hid (show lessB pn a.name = Op.bytesLess pn.toList a.name.toList from rfl)
        generalize Op.bytesLess pn.toList a.name.toList = z at hz ⊢
        clear T1 B1 hA
        cases z with
        | false =>
          rw [Bool.not_false]
          have hf := Lib.hid (show rightL l = false from rightL_bad hlt (by rw [HG.out, hz.out]; simp))
          clear HG hh AD
          repeat (go_big_quiet_step (fail))
          refine wpQuiet_nil ?_
          change wpList _ _ _ _ _ W1.drew
          clear d0 d1 d2 d3 d4 d5 df
          go_wp2_with fail
          go_ret
          exact ⟨by rw [hf.out]; rfl, BD.out⟩
        | true =>
          rw [Bool.not_true]
          repeat (go_big_quiet_step (fail))
          refine wpQuiet_nil ?_
          change wpList _ _ _ _ _ W1.drew
          clear d0 d1 d2 d3 d4 d5 df
          go_wp2_with fail
          refine (isRight_any a _ ai ci ao ct W1.drew AD.out (HE.out.below BD.out)).mono ?_
          rintro e w2 ⟨rfl, hb⟩
          have B2 := Lib.hid (BD.out.trans (hb.mono BD.out.size))
          clear hb BD AD B0
          cases hr : rightB a with
          | false =>
            have hf := Lib.hid (show rightL l = false from rightL_bad hlt (by rw [HG.out, hr]; rfl))
            clear HG hh
            go_wp2_with fail
            go_ret
            exact ⟨by rw [hf.out]; rfl, B2.out⟩
          | true =>
            have hg := Lib.hid (show ∀ j, j < p + 2 → goodAt l j = true from fun j hj => by
              by_cases hjp : j = p + 1
              · subst hjp; rw [HG.out, hr, hz.out]; simp
              · exact hh.out.1 j (by omega))
            clear HG hh
            go_wp2_with fail
            go_roundw
            · exact ⟨p + 2, by omega, rfl, hg.out, B2.out⟩
            · simp only [intOf]; omega
    · obtain rfl : q = l.length := by omega
      have hf := Lib.hid (show rightL l = true from (rightL_iff l).2 ⟨h100, hh.out.1⟩)
      go_wp2_with fail
      go_ret
      exact ⟨by rw [hf.out]; rfl, hh.out.2⟩
end Go.Proofs.YtiofnjnaleglgaaGreatDoor

/-
  Where in a list the attribute with a name stands.
-/
namespace Go.Proofs.YtiofnjnaleglgaaGreatDoor
open Go.RowKit

/-- The place of the first attribute with a name, or the length. -/
def posL (l : List At) (nm : ByteArray) : Nat := l.findIdx fun a => decide (a.name = nm)
theorem posL_none {l : List At} {nm : ByteArray} (h : ∀ j, j < l.length → (nth l j).name ≠ nm) : posL l nm = l.length := by
  unfold posL
  refine List.findIdx_eq_length.2 fun a ha => ?_
  obtain ⟨j, hj, rfl⟩ := nth_mem ha
  exact decide_eq_false (h j hj)
theorem nth_get {l : List At} {j : Nat} (h : j < l.length) : nth l j = l[j] := by
  unfold nth; rw [List.getElem?_eq_getElem h]; rfl
theorem posL_at {l : List At} {nm : ByteArray} {q : Nat} (hq : q < l.length) (h : ∀ j, j < q → (nth l j).name ≠ nm) (he : (nth l q).name = nm) : posL l nm = q := by
  unfold posL
  refine (List.findIdx_eq hq).2 ⟨decide_eq_true (by rw [← nth_get hq]; exact he), fun j hj => decide_eq_false ?_⟩
  have := h j hj
  rwa [nth_get (Nat.lt_trans hj hq)] at this

/-- What a search answers. -/
def posOut (l : List At) (nm : ByteArray) : Value := .tuple (if posL l nm < l.length then #[.int .i64 (posL l nm : Nat), .bool true] else #[.int .i64 0, .bool false])
theorem posOut_yes {l : List At} {nm : ByteArray} {q : Nat} (h : posL l nm = q) (hq : q < l.length) : posOut l nm = .tuple #[.int .i64 (q : Nat), .bool true] := by
  unfold posOut; rw [h, if_pos hq]
theorem posOut_no {l : List At} {nm : ByteArray} (h : posL l nm = l.length) : posOut l nm = .tuple #[.int .i64 0, .bool false] := by
  unfold posOut; rw [h, if_neg (Nat.lt_irrefl _)]

set_option maxHeartbeats 400000 in
set_option maxRecDepth 100000 in
theorem nameOf_any (a : At) (v : Value) (ai : Option Addr) (ci : Nat) (ao : Option Addr) (ct : Nat) (w : World) (ha : AttAt w a v ai ci ao ct) :
    Calls Tryz.prog 67 #[v] w fun e w' => e = .returned (.string a.name) ∧ Below w.heap.size w w' := by
  have hv := ha.val
  clear ha
  subst hv
  go_enter Tryz.func67, Tryz.ntmps67
  go_wp2_with fail
  go_ret
  exact ⟨rfl, alloc_below _ _⟩

set_option maxHeartbeats 2000000 in
set_option maxRecDepth 100000 in
theorem search_any (so : Option Addr) (l : List At) (c : Nat) (nm : ByteArray) (hn : l.length ≤ 9223372036854775807) (w : World) (hl : ListAt w so l) :
    Calls Tryz.prog 66 #[.slice so l.length c, .string nm, .func (.func 67) #[] #[]] w
      fun e w' => e = .returned (posOut l nm) ∧ Below w.heap.size w w' := by
  have HL := Lib.hid hl
  clear hl
  go_enter Tryz.func66, Tryz.ntmps66
  go_wp2_with fail
  go_loopw [12, 9] (fun i _ wr => ∃ q : Nat, q ≤ l.length ∧ i = .int .i64 q ∧ Hid ((∀ j, j < q → (nth l j).name ≠ nm) ∧ Below w.heap.size w wr)) (fun i _ _ => l.length - (intOf i).toNat)
  case atStart => exact ⟨0, Nat.zero_le _, rfl, fun j hj => absurd hj (Nat.not_lt_zero _), Below.refl _ _⟩
  case round =>
    obtain ⟨q, hq, rfl, hh⟩ := hrel
    by_cases hlt : q < l.length
    · rcases HL.out.below hh.out.2 with h0 | ⟨bk, o, rfl, hc⟩
      · rw [h0] at hlt; exact absurd hlt (Nat.not_lt_zero _)
      obtain ⟨ai, ci, ao, ct, hel⟩ := hc q hlt
      have HEL := Lib.hid hel
      have HP := Lib.hid (fun (h : (nth l q).name = nm) => posL_at hlt hh.out.1 h)
      have HN := Lib.hid (fun (h : (nth l q).name ≠ nm) (j : Nat) (hj : j < q + 1) => show (nth l j).name ≠ nm from
        if hjq : j = q then hjq ▸ h else hh.out.1 j (by omega))
      clear hc hel
      generalize nth l q = a at HEL HP HN
      have c0 := HEL.out.c0
      have c1 := HEL.out.c1
      have c2 := HEL.out.c2
      have c3 := HEL.out.c3
      have c4 := HEL.out.c4
      have c5 := HEL.out.c5
      have T1 := Lib.hid (heap_alloc_new wr (.cells #[.string a.name, .int .i64 a.kind, .int .i64 a.num, .string a.text, .slice ai a.ints.length ci, .slice ao a.texts.length ct] 29))
      have B1 := Lib.hid (hh.out.2.alloc hh.out.2.size (.cells #[.string a.name, .int .i64 a.kind, .int .i64 a.num, .string a.text, .slice ai a.ints.length ci, .slice ao a.texts.length ct] 29))
      have hA := Lib.hid (HEL.out.att.below (alloc_below wr (.cells #[.string a.name, .int .i64 a.kind, .int .i64 a.num, .string a.text, .slice ai a.ints.length ci, .slice ao a.texts.length ct] 29)))
      go_upto_region 4 with fail
      generalize wr.alloc (.cells #[.string a.name, .int .i64 a.kind, .int .i64 a.num, .string a.text, .slice ai a.ints.length ci, .slice ao a.texts.length ct] 29) = W1 at T1 B1 hA ⊢
      generalize wr.heap.size = D at T1 ⊢
      clear c0 c1 c2 c3 c4 c5
      obtain ⟨d0, d1, d2, d3, d4, d5, df⟩ := cells6 T1.out
      go_wp2_with fail
      refine (nameOf_any a _ ai ci ao ct _ hA.out).mono ?_
      rintro e w2 ⟨rfl, hb⟩
      have B2 := Lib.hid (B1.out.trans (hb.mono B1.out.size))
      clear hb B1 hA T1 d0 d1 d2 d3 d4 d5 df
      by_cases he : a.name = nm
      · have hp := Lib.hid (posOut_yes (HP.out he) hlt)
        clear HP HN hh
        go_wp2_with fail
        go_ret2
        exact ⟨by rw [hp.out]; rfl, B2.out⟩
      · have hp := Lib.hid (HN.out he)
        have HS := Lib.hid (show ¬ (a.name.toList == nm.toList) = true from fun h => he (bytes_inj (by rw [← toList_data, ← toList_data]; exact eq_of_beq h)))
        clear HP HN hh
        go_wp2_with fail
        go_roundw
        · exact ⟨q + 1, by omega, rfl, hp.out, B2.out⟩
        · simp only [intOf]; omega
    · obtain rfl : q = l.length := by omega
      have hf := Lib.hid (posOut_no (posL_none hh.out.1))
      go_wp2_with fail
      go_ret2
      exact ⟨by rw [hf.out]; rfl, hh.out.2⟩

def findOut (l : List At) (nm : ByteArray) : Value := .tuple (if rightL l then (if posL l nm < l.length then #[.int .i64 (posL l nm : Nat), .int .i64 0] else #[.int .i64 0, .int .i64 4]) else #[.int .i64 0, .int .i64 20])
theorem findOut_bad {l : List At} {nm : ByteArray} (h : rightL l = false) : findOut l nm = .tuple #[.int .i64 0, .int .i64 20] := by unfold findOut; rw [h]; rfl
theorem findOut_yes {l : List At} {nm : ByteArray} {q : Nat} (h : rightL l = true) (hp : posL l nm = q) (hq : q < l.length) : findOut l nm = .tuple #[.int .i64 (q : Nat), .int .i64 0] := by unfold findOut; rw [h, hp, if_pos rfl, if_pos hq]
theorem findOut_no {l : List At} {nm : ByteArray} (h : rightL l = true) (hp : posL l nm = l.length) : findOut l nm = .tuple #[.int .i64 0, .int .i64 4] := by unfold findOut; rw [h, hp, if_pos rfl, if_neg (Nat.lt_irrefl _)]

set_option maxHeartbeats 1000000 in
set_option maxRecDepth 100000 in
/-- Where the attribute with a name stands, or which error it is. -/
theorem find_any (so : Option Addr) (l : List At) (c : Nat) (nm : ByteArray) (hn : l.length ≤ 9223372036854775807) (w : World) (hl : ListAt w so l) (hE : Env w) :
    Calls Tryz.prog 38 #[.slice so l.length c, .string nm] w
      fun e w' => e = .returned (findOut l nm) ∧ Below w.heap.size w w' := by
  have HE := Lib.hid hE
  have HL := Lib.hid hl
  clear hE hl
  have hpl : posL l nm ≤ l.length := List.findIdx_le_length
  go_enter Tryz.func38, Tryz.ntmps38
  go_wp2_with fail
  refine (isRightList_any so l c hn w HL.out HE.out).mono ?_
  rintro e w1 ⟨rfl, hb⟩
  have B1 := Lib.hid hb
  clear hb
  cases hr : rightL l with
  | false =>
    have hf := Lib.hid (findOut_bad (nm := nm) hr)
    go_wp2_with fail
    go_ret2
    exact ⟨by rw [hf.out]; rfl, B1.out⟩
  | true =>
    go_wp2_with fail
    refine (search_any so l c nm hn w1 (HL.out.below B1.out)).mono ?_
    rintro e w2 ⟨rfl, hb⟩
    have B2 := Lib.hid (B1.out.trans (hb.mono B1.out.size))
    clear hb B1
    by_cases hp : posL l nm < l.length
    · have hf := Lib.hid (findOut_yes hr (Eq.refl (posL l nm)) hp)
      rw [posOut_yes rfl hp]
      clear hpl hp hr
      go_wp2_with fail
      go_ret2
      exact ⟨by rw [hf.out]; rfl, B2.out⟩
    · have hq : posL l nm = l.length := by omega
      have hf := Lib.hid (findOut_no hr hq)
      rw [posOut_no hq]
      clear hpl hp hq hr
      go_wp2_with fail
      go_ret2
      exact ⟨by rw [hf.out]; rfl, B2.out⟩
end Go.Proofs.YtiofnjnaleglgaaGreatDoor

/-
  'Check' of lists; copies of lists of numbers and of strings in new memory.
-/
namespace Go.Proofs.YtiofnjnaleglgaaGreatDoor
open Go.RowKit

/-- What 'Check' answers. -/
def errL (l : List At) : Int := if rightL l then 0 else 20
theorem errL_yes {l : List At} (h : rightL l = true) : errL l = 0 := by unfold errL; rw [h]; rfl
theorem errL_no {l : List At} (h : rightL l = false) : errL l = 20 := by unfold errL; rw [h]; rfl
set_option maxHeartbeats 400000 in
set_option maxRecDepth 100000 in
theorem CheckL_any (so : Option Addr) (l : List At) (c : Nat) (hn : l.length ≤ 9223372036854775807) (w : World) (hl : ListAt w so l) (hE : Env w) :
    Calls Tryz.prog 13 #[.slice so l.length c] w fun e w' => e = .returned (.int .i64 (errL l)) ∧ Below w.heap.size w w' := by
  go_enter Tryz.func13, Tryz.ntmps13
  go_wp2_with fail
  refine (isRightList_any so l c hn w hl hE).mono ?_
  rintro e w1 ⟨rfl, hb⟩
  have B1 := Lib.hid hb
  clear hb hl hE
  cases hr : rightL l with
  | false =>
    have hf := Lib.hid (errL_no hr)
    go_wp2_with fail
    go_ret
    exact ⟨by rw [hf.out]; rfl, B1.out⟩
  | true =>
    have hf := Lib.hid (errL_yes hr)
    go_wp2_with fail
    go_ret
    exact ⟨by rw [hf.out]; rfl, B1.out⟩

theorem made_one (z : Value) (n : Nat) : madeCells #[z] n = (List.replicate n z).toArray := by
  apply Array.ext
  · simp [madeCells]
  · intro j h1 h2
    simp [madeCells, Nat.mod_one]
theorem make_i64 (n : Nat) (hn : n ≤ 1000) (u : World) : (Instr.makeSlice 26 (.int .i64 n) (.int .i64 n)).run Tryz.prog u =
    .ok (.slice (some ⟨u.heap.size, 0, none⟩) n n) (u.alloc (.cells (List.replicate n (.int .i64 0)).toArray 2)) := by
  obtain ⟨i, hi, hz, hsz, hby⟩ := info_i64
  have h := run_make (P := Tryz.prog) u 26 2 i (.int .i64 0) Tryz.underlying26 hi hz .i64 .i64 n n (by omega) (Int.le_refl _) (by rw [hby]; omega) (by omega)
  rw [hsz, Int.toNat_natCast, Nat.mul_one] at h
  rw [show madeCells (Value.int .i64 0).cells n = _ from made_one _ n] at h
  exact h
theorem make_str (n : Nat) (hn : n ≤ 1000) (u : World) : (Instr.makeSlice 27 (.int .i64 n) (.int .i64 n)).run Tryz.prog u =
    .ok (.slice (some ⟨u.heap.size, 0, none⟩) n n) (u.alloc (.cells (List.replicate n (.string ⟨#[]⟩)).toArray 9)) := by
  obtain ⟨i, hi, hz, hsz, hby⟩ := info_str
  have h := run_make (P := Tryz.prog) u 27 9 i (.string ⟨#[]⟩) Tryz.underlying27 hi hz .i64 .i64 n n (by omega) (Int.le_refl _) (by rw [hby]; omega) (by omega)
  rw [hsz, Int.toNat_natCast, Nat.mul_one] at h
  rw [show madeCells (Value.string ⟨#[]⟩).cells n = _ from made_one _ n] at h
  exact h
theorem add_row (g j : Nat) : (⟨g, 0, none⟩ : Addr).add j = ⟨g, j, none⟩ := by unfold Addr.add; split <;> simp_all
theorem ints_of_row {w : World} {g : Nat} {zs : List Int} {T : TypeId} (h : w.heap[g]? = some (.cells (zs.map (Value.int .i64)).toArray T (0, 0))) : IntsAt w (some ⟨g, 0, none⟩) zs := by
  refine .inr ⟨_, rfl, fun j hj => ?_⟩
  rw [add_row]
  simp [World.cell?, h, List.getElem?_eq_getElem hj]
theorem strs_of_row {w : World} {g : Nat} {zs : List ByteArray} {T : TypeId} (h : w.heap[g]? = some (.cells (zs.map Value.string).toArray T (0, 0))) : StrsAt w (some ⟨g, 0, none⟩) zs := by
  refine .inr ⟨_, rfl, fun j hj => ?_⟩
  rw [add_row]
  simp [World.cell?, h, List.getElem?_eq_getElem hj]
/-- A copy over the whole of a row of the call's own. -/
theorem copy_whole {w : World} {T ty elem : TypeId} {g n dCap sCap : Nat} {a : Addr} {cur : Array Value} {t : TypeId} {cs : List Value} (hu : Tryz.prog.underlying T = some (.slice elem)) (hs : (Tryz.prog.info? elem).map (·.size) = some 1)
    (hg : w.heap[g]? = some (.cells cur t (0, 0))) (hn : cs.length = n) (hc : cur.size = n) (hsrc : ∀ j v, cs[j]? = some v → w.cell? (a.add j) = some v) (h1 : ∀ v ∈ cs, v.oneCell' = true) :
    (Builtin.copy_ #[T, T] ty #[.slice (some ⟨g, 0, none⟩) n dCap, .slice (some a) n sCap]).run Tryz.prog w = .ok (goInt n) (w.setRow g cs.toArray) := by
  have h := run_copy_row Tryz.prog w T T ty elem g 0 n dCap a n sCap cur t cs hu hs hg (by rw [hn]; exact (Nat.min_self n).symm) hsrc (by omega) h1
  rw [h, hn, List.take_zero, List.nil_append, Nat.zero_add, ← hc]
  rw [show cur.toList.drop cur.size = [] from by simp, List.append_nil]
theorem one_i64 : (Tryz.prog.info? 2).map (·.size) = some 1 := by kernel_rfl
theorem one_str : (Tryz.prog.info? 9).map (·.size) = some 1 := by kernel_rfl
theorem below_row {W : World} {cs cs' : Array Value} {T : TypeId} : Below W.heap.size W ((W.alloc (.cells cs T (0, 0))).setRow W.heap.size cs') :=
  below_setRow (alloc_below W _) (Nat.le_refl _) _

set_option maxHeartbeats 1000000 in
set_option maxRecDepth 100000 in
theorem fresh_ints (ao : Option Addr) (zs : List Int) (c : Nat) (hn : zs.length ≤ 1000) (w : World) (hz : IntsAt w ao zs) :
    Calls Tryz.prog 68 #[.slice ao zs.length c] w fun e w' => ∃ (ao' : Option Addr) (c' : Nat), e = .returned (.slice ao' zs.length c') ∧ zs.length ≤ c' ∧ IntsAt w' ao' zs ∧ NewAt w ao' ∧ LiesI w' ao' ∧ Below w.heap.size w w' := by
  have HZ := Lib.hid hz
  clear hz
  by_cases h0 : zs.length = 0
  · have hl := Lib.hid (List.eq_nil_of_length_eq_zero h0)
    go_enter Tryz.func68, Tryz.ntmps68
    go_wp2_with fail
    go_ret
    exact ⟨none, 0, by rw [h0]; rfl, by omega, .inl hl.out, newNone, liesNone, Below.refl _ _⟩
  · have hmk := make_i64 zs.length hn w
    have hz2 : ¬ (zs.length : Int) = 0 := by omega
    have M0 := Lib.hid (heap_alloc_new w (.cells (List.replicate zs.length (.int .i64 0)).toArray 2))
    go_enter Tryz.func68, Tryz.ntmps68
    go_wp2_with fail
    rcases HZ.out with h | ⟨a, rfl, hc⟩
    · exact absurd (by rw [h]; rfl) h0
    have hcp := copy_whole (w := w.alloc (.cells (Array.replicate zs.length (.int .i64 0)) 2)) (T := 26) (ty := 3) (elem := 2) (g := w.heap.size) (n := zs.length) (dCap := zs.length) (sCap := c) (a := a) (t := 2)
      (cs := zs.map (Value.int .i64)) Tryz.underlying26 one_i64 (heap_alloc_new w _) (by simp) (by simp) (fun j v h => by
        rw [List.getElem?_map] at h
        obtain ⟨z, hz, rfl⟩ := Option.map_eq_some_iff.1 h
        have hj : j < zs.length := (List.getElem?_eq_some_iff.1 hz).1
        have h2 := hc j hj
        rw [hz] at h2
        exact ((alloc_below w _).cell (block_lt_of_cell h2)).trans h2) (fun v hv => by
        obtain ⟨z, _, rfl⟩ := List.mem_map.1 hv
        rfl)
    rw [hcp]
    have R1 := Lib.hid (setRow_heap (w.alloc (.cells (Array.replicate zs.length (.int .i64 0)) 2)) w.heap.size _ (zs.map (Value.int .i64)).toArray _ _ (heap_alloc_new w _))
    have R2 := Lib.hid (below_row (W := w) (cs := Array.replicate zs.length (.int .i64 0)) (T := 2) (cs' := (zs.map (Value.int .i64)).toArray))
    generalize (w.alloc (.cells (Array.replicate zs.length (.int .i64 0)) 2)).setRow w.heap.size (zs.map (Value.int .i64)).toArray = w2 at R1 R2 ⊢
    clear hcp hc HZ hmk M0
    go_wp2_with fail
    go_ret
    exact ⟨some ⟨w.heap.size, 0, none⟩, zs.length, rfl, Nat.le_refl _, ints_of_row R1.out, fun x e => by cases e; exact Nat.le_refl _, fun x e => by cases e; exact ⟨_, R1.out⟩, R2.out⟩
set_option maxHeartbeats 1000000 in
set_option maxRecDepth 100000 in
theorem fresh_strs (ao : Option Addr) (zs : List ByteArray) (c : Nat) (hn : zs.length ≤ 1000) (w : World) (hz : StrsAt w ao zs) :
    Calls Tryz.prog 69 #[.slice ao zs.length c] w fun e w' => ∃ (ao' : Option Addr) (c' : Nat), e = .returned (.slice ao' zs.length c') ∧ zs.length ≤ c' ∧ StrsAt w' ao' zs ∧ NewAt w ao' ∧ TypAt w' ao' ∧ Below w.heap.size w w' := by
  have HZ := Lib.hid hz
  clear hz
  by_cases h0 : zs.length = 0
  · have hl := Lib.hid (List.eq_nil_of_length_eq_zero h0)
    go_enter Tryz.func69, Tryz.ntmps69
    go_wp2_with fail
    go_ret
    exact ⟨none, 0, by rw [h0]; rfl, by omega, .inl hl.out, newNone, typNone, Below.refl _ _⟩
  · have hmk := make_str zs.length hn w
    have hz2 : ¬ (zs.length : Int) = 0 := by omega
    have M0 := Lib.hid (heap_alloc_new w (.cells (List.replicate zs.length (.string ⟨#[]⟩)).toArray 9))
    go_enter Tryz.func69, Tryz.ntmps69
    go_wp2_with fail
    rcases HZ.out with h | ⟨a, rfl, hc⟩
    · exact absurd (by rw [h]; rfl) h0
    have hcp := copy_whole (w := w.alloc (.cells (Array.replicate zs.length (.string ⟨#[]⟩)) 9)) (T := 27) (ty := 3) (elem := 9) (g := w.heap.size) (n := zs.length) (dCap := zs.length) (sCap := c) (a := a) (t := 9)
      (cs := zs.map (Value.string)) Tryz.underlying27 one_str (heap_alloc_new w _) (by simp) (by simp) (fun j v h => by
        rw [List.getElem?_map] at h
        obtain ⟨z, hz, rfl⟩ := Option.map_eq_some_iff.1 h
        have hj : j < zs.length := (List.getElem?_eq_some_iff.1 hz).1
        have h2 := hc j hj
        rw [hz] at h2
        exact ((alloc_below w _).cell (block_lt_of_cell h2)).trans h2) (fun v hv => by
        obtain ⟨z, _, rfl⟩ := List.mem_map.1 hv
        rfl)
    rw [hcp]
    have R1 := Lib.hid (setRow_heap (w.alloc (.cells (Array.replicate zs.length (.string ⟨#[]⟩)) 9)) w.heap.size _ (zs.map (Value.string)).toArray _ _ (heap_alloc_new w _))
    have R2 := Lib.hid (below_row (W := w) (cs := Array.replicate zs.length (.string ⟨#[]⟩)) (T := 9) (cs' := (zs.map (Value.string)).toArray))
    generalize (w.alloc (.cells (Array.replicate zs.length (.string ⟨#[]⟩)) 9)).setRow w.heap.size (zs.map (Value.string)).toArray = w2 at R1 R2 ⊢
    clear hcp hc HZ hmk M0
    go_wp2_with fail
    go_ret
    exact ⟨some ⟨w.heap.size, 0, none⟩, zs.length, rfl, Nat.le_refl _, strs_of_row R1.out, fun x e => by cases e; exact Nat.le_refl _, fun x e => by cases e; exact ⟨_, R1.out⟩, R2.out⟩
theorem attVarA {w : World} {b : Nat} {v0 v1 v2 v3 v4 v5 : Value} (h : w.heap[b]? = some (.cells #[v0, v1, v2, v3, v4, v5] 29 (0, 0))) :
    (loadVar 29 ⟨b, 0, none⟩).run Tryz.prog w = .ok (.agg #[v0, v1, v2, v3, v4, v5]) w :=
  run_loadVar_row w b _ _ _ _ _ h Tryz.underlying29 rfl (by kernel_rfl)

set_option maxHeartbeats 1000000 in
set_option maxRecDepth 100000 in
/-- A copy of an attribute shares no memory with it. -/
theorem copied_any (a : At) (v : Value) (ai : Option Addr) (ci : Nat) (ao : Option Addr) (ct : Nat) (hi : a.ints.length ≤ 1000) (ht : a.texts.length ≤ 1000) (w : World) (ha : AttAt w a v ai ci ao ct) :
    Calls Tryz.prog 39 #[v] w fun e w' => ∃ (v' : Value) (ai' : Option Addr) (ci' : Nat) (ao' : Option Addr) (ct' : Nat), e = .returned v' ∧ AttAt w' a v' ai' ci' ao' ct' ∧ NewAt w ai' ∧ NewAt w ao' ∧ LiesI w' ai' ∧ TypAt w' ao' ∧ Below w.heap.size w w' := by
  have hv := ha.val
  have HA := Lib.hid ha
  clear ha
  subst hv
  have T0 := Lib.hid (heap_alloc_new w (.cells #[.string a.name, .int .i64 a.kind, .int .i64 a.num, .string a.text, .slice ai a.ints.length ci, .slice ao a.texts.length ct] 29))
  have B0 := Lib.hid (alloc_below w (.cells #[.string a.name, .int .i64 a.kind, .int .i64 a.num, .string a.text, .slice ai a.ints.length ci, .slice ao a.texts.length ct] 29))
  go_enter Tryz.func39, Tryz.ntmps39
  go_upto_region 1 with fail
  have T1 := Lib.hid (heap_alloc_new (w.alloc (.cells #[.string a.name, .int .i64 a.kind, .int .i64 a.num, .string a.text, .slice ai a.ints.length ci, .slice ao a.texts.length ct] 29)) (.cells #[.string ⟨#[]⟩, .int .i64 0, .int .i64 0, .string ⟨#[]⟩, .slice none 0 0, .slice none 0 0] 29))
  have B1 := Lib.hid (B0.out.alloc B0.out.size (.cells #[.string ⟨#[]⟩, .int .i64 0, .int .i64 0, .string ⟨#[]⟩, .slice none 0 0, .slice none 0 0] 29))
  have T0' := Lib.hid ((Below.heap_alloc _ (.cells #[.string ⟨#[]⟩, .int .i64 0, .int .i64 0, .string ⟨#[]⟩, .slice none 0 0, .slice none 0 0] 29) _ (lt_of_block T0.out)).trans T0.out)
  have hS : w.heap.size + 2 ≤ ((w.alloc (.cells #[.string a.name, .int .i64 a.kind, .int .i64 a.num, .string a.text, .slice ai a.ints.length ci, .slice ao a.texts.length ct] 29)).alloc (.cells #[.string ⟨#[]⟩, .int .i64 0, .int .i64 0, .string ⟨#[]⟩, .slice none 0 0, .slice none 0 0] 29)).heap.size := by simp
  rw [show (w.alloc (.cells #[.string a.name, .int .i64 a.kind, .int .i64 a.num, .string a.text, .slice ai a.ints.length ci, .slice ao a.texts.length ct] 29)).heap.size = w.heap.size + 1 from by simp] at T1
  generalize (w.alloc (.cells #[.string a.name, .int .i64 a.kind, .int .i64 a.num, .string a.text, .slice ai a.ints.length ci, .slice ao a.texts.length ct] 29)).alloc (.cells #[.string ⟨#[]⟩, .int .i64 0, .int .i64 0, .string ⟨#[]⟩, .slice none 0 0, .slice none 0 0] 29) = W1 at T0' T1 B1 hS ⊢
  clear T0 B0
  have HI := Lib.hid (HA.out.ints.below B1.out)
  have HT := Lib.hid (HA.out.texts.below B1.out)
  have HW := Lib.hid HA.out.wf
  have HTW := Lib.hid HA.out.texts
  clear HA
  generalize hs : w.heap.size = S at T0' T1 B1 hS ⊢
  have Hs := Lib.hid hs
  clear hs
  have HS1 := Lib.hid hS
  clear hS
  obtain ⟨c0, c1, c2, c3, c4, c5, cf⟩ := cells6 T0'.out
  go_wp2_with fail
  refine (fresh_ints ai a.ints ci hi W1 HI.out).mono ?_
  rintro e w2 ⟨ai', ci', rfl, hic, hIn, hNi, hLi, hb⟩
  have I2 := Lib.hid (And.intro hic (And.intro hIn (And.intro hNi hLi)))
  have B2 := Lib.hid (B1.out.trans (hb.mono (by have := HS1.out; omega)))
  have T2 := Lib.hid ((hb.block _ (lt_of_block T0'.out)).trans T0'.out)
  have R2 := Lib.hid ((hb.block _ (lt_of_block T1.out)).trans T1.out)
  have HT2 := Lib.hid (HT.out.below hb)
  have HS2 := Lib.hid (Nat.le_trans HS1.out hb.size)
  clear hic hIn hNi hLi hb T0' T1 B1 HI HT c0 c1 c2 c3 c4 c5 cf
  obtain ⟨c0, c1, c2, c3, c4, c5, cf⟩ := cells6 T2.out
  have hf4 := cf 4
  go_upto_region 2 with fail
  have T3 := Lib.hid (show (w2.setCell ⟨S, 4, none⟩ (.slice ai' a.ints.length ci')).heap[S]? = some (.cells #[.string a.name, .int .i64 a.kind, .int .i64 a.num, .string a.text, .slice ai' a.ints.length ci', .slice ao a.texts.length ct] 29 (0, 0)) from heap_setCell_same _ S 4 _ _ _ T2.out)
  have R3 := Lib.hid ((heap_setCell_other w2 ⟨S, 4, none⟩ (S + 1) (.slice ai' a.ints.length ci') (by simp)).trans R2.out)
  have B3 := Lib.hid (B2.out.setCell (p := ⟨S, 4, none⟩) (Nat.le_refl _) (.slice ai' a.ints.length ci'))
  have HS3 := Lib.hid (show S + 2 ≤ (w2.setCell ⟨S, 4, none⟩ (.slice ai' a.ints.length ci')).heap.size from by rw [setCell_size]; exact HS2.out)
  have I3 := Lib.hid (show a.ints.length ≤ ci' ∧ IntsAt (w2.setCell ⟨S, 4, none⟩ (.slice ai' a.ints.length ci')) ai' a.ints ∧ (∀ x, ai' = some x → S + 2 ≤ x.block) ∧ LiesI (w2.setCell ⟨S, 4, none⟩ (.slice ai' a.ints.length ci')) ai' from
    have hn : ∀ x, ai' = some x → S + 2 ≤ x.block := fun x e => Nat.le_trans HS1.out (I2.out.2.2.1 x e)
    ⟨I2.out.1, I2.out.2.1.moved (B := S + 2) hn (fun k hk => heap_setCell_other _ _ _ _ (by simp; omega)), hn, fun x e => by
      obtain ⟨cs, h⟩ := I2.out.2.2.2 x e
      exact ⟨cs, (heap_setCell_other _ _ _ _ (by have := hn x e; simp; omega)).trans h⟩⟩)
  have HT3 := Lib.hid (show StrsAt (w2.setCell ⟨S, 4, none⟩ (.slice ai' a.ints.length ci')) ao a.texts from HTW.out.below (by rw [Hs.out]; exact B3.out))
  generalize w2.setCell ⟨S, 4, none⟩ (.slice ai' a.ints.length ci') = w3 at T3 R3 B3 HS3 I3 HT3 ⊢
  clear T2 R2 B2 HS2 I2 HT2 c0 c1 c2 c3 c4 c5 cf hf4 HS1
  obtain ⟨c0, c1, c2, c3, c4, c5, cf⟩ := cells6 T3.out
  go_wp2_with fail
  refine (fresh_strs ao a.texts ct ht w3 HT3.out).mono ?_
  rintro e w4 ⟨ao', ct', rfl, hic, hIn, hNi, hLi, hb⟩
  have J4 := Lib.hid (And.intro hic (And.intro hIn (And.intro (show ∀ x, ao' = some x → S + 2 ≤ x.block from fun x e => Nat.le_trans HS3.out (hNi x e)) hLi)))
  have B4 := Lib.hid (B3.out.trans (hb.mono (by have := HS3.out; omega)))
  have T4 := Lib.hid ((hb.block _ (lt_of_block T3.out)).trans T3.out)
  have R4 := Lib.hid ((hb.block _ (lt_of_block R3.out)).trans R3.out)
  have I4 := Lib.hid (show a.ints.length ≤ ci' ∧ IntsAt w4 ai' a.ints ∧ (∀ x, ai' = some x → S + 2 ≤ x.block) ∧ LiesI w4 ai' from
    ⟨I3.out.1, I3.out.2.1.below hb, I3.out.2.2.1, fun x e => by
      obtain ⟨cs, h⟩ := I3.out.2.2.2 x e
      exact ⟨cs, (hb.block _ (lt_of_block h)).trans h⟩⟩)
  clear hic hIn hNi hLi hb T3 R3 B3 HS3 I3 HT3 c0 c1 c2 c3 c4 c5 cf
  obtain ⟨c0, c1, c2, c3, c4, c5, cf⟩ := cells6 T4.out
  have hf5 := cf 5
  go_upto_region 3 with fail
  have T5 := Lib.hid (show (w4.setCell ⟨S, 5, none⟩ (.slice ao' a.texts.length ct')).heap[S]? = some (.cells #[.string a.name, .int .i64 a.kind, .int .i64 a.num, .string a.text, .slice ai' a.ints.length ci', .slice ao' a.texts.length ct'] 29 (0, 0)) from heap_setCell_same _ S 5 _ _ _ T4.out)
  have R5 := Lib.hid ((heap_setCell_other w4 ⟨S, 5, none⟩ (S + 1) (.slice ao' a.texts.length ct') (by simp)).trans R4.out)
  have B5 := Lib.hid (B4.out.setCell (p := ⟨S, 5, none⟩) (Nat.le_refl _) (.slice ao' a.texts.length ct'))
  have hk5 : ∀ k, S + 2 ≤ k → (w4.setCell ⟨S, 5, none⟩ (.slice ao' a.texts.length ct')).heap[k]? = w4.heap[k]? := fun k hk => heap_setCell_other _ _ _ _ (by simp; omega)
  have K5 := Lib.hid hk5
  clear hk5 c0 c1 c2 c3 c4 c5 cf hf5
  generalize w4.setCell ⟨S, 5, none⟩ (.slice ao' a.texts.length ct') = w5 at T5 R5 B5 K5 ⊢
  obtain ⟨c0, c1, c2, c3, c4, c5, cf⟩ := cells6 T5.out
  obtain ⟨d0, d1, d2, d3, d4, d5, df⟩ := cells6 R5.out
  go_wp2_with fail
  refine bodyPost_ret (v := .agg #[.string a.name, .int .i64 a.kind, .int .i64 a.num, .string a.text, .slice ai' a.ints.length ci', .slice ao' a.texts.length ct']) (results_cell Tryz.results39 rfl (attVarA (set6_block R5.out))) rfl ?_
  have hk6 : ∀ k, S + 2 ≤ k → ((((((w5.setCell ⟨S + 1, 0, none⟩ (.string a.name)).setCell ⟨S + 1, 1, none⟩ (.int .i64 a.kind)).setCell ⟨S + 1, 2, none⟩ (.int .i64 a.num)).setCell ⟨S + 1, 3, none⟩ (.string a.text)).setCell ⟨S + 1, 4, none⟩ (.slice ai' a.ints.length ci')).setCell ⟨S + 1, 5, none⟩ (.slice ao' a.texts.length ct')).heap[k]? = w4.heap[k]? :=
    fun k hk => (set6_other (by omega)).trans (K5.out k hk)
  have hB6 := below_set6 (b := S + 1) (u0 := .string a.name) (u1 := .int .i64 a.kind) (u2 := .int .i64 a.num) (u3 := .string a.text) (u4 := .slice ai' a.ints.length ci') (u5 := .slice ao' a.texts.length ct') B5.out (by omega)
  refine ⟨_, ai', ci', ao', ct', rfl, ⟨rfl, I4.out.2.1.moved I4.out.2.2.1 hk6, J4.out.2.1.moved J4.out.2.2.1 hk6, I4.out.1, J4.out.1, HW.out⟩, fun x e => ?_, fun x e => ?_, fun x e => ?_, fun x e => ?_, ?_⟩
  · have := I4.out.2.2.1 x e
    rw [Hs.out]; omega
  · have := J4.out.2.2.1 x e
    rw [Hs.out]; omega
  · obtain ⟨cs, h⟩ := I4.out.2.2.2 x e
    exact ⟨cs, (hk6 _ (I4.out.2.2.1 x e)).trans h⟩
  · obtain ⟨cs, h⟩ := J4.out.2.2.2 x e
    exact ⟨cs, (hk6 _ (J4.out.2.2.1 x e)).trans h⟩
  · rw [Hs.out]; exact hB6
end Go.Proofs.YtiofnjnaleglgaaGreatDoor

/-
  Copies of lists of attributes.
-/
namespace Go.Proofs.YtiofnjnaleglgaaGreatDoor
open Go.RowKit

/-- Each cell of a list of attributes. -/
theorem ListAt.cells {w : World} {bk o : Nat} {l : List At} (hc : ∀ j, j < l.length → ∃ ai ci ao ct, ElAt w bk (o + j * 6) (nth l j) ai ci ao ct) :
    ∀ k, k < l.length * 6 → ∃ v, w.cell? ⟨bk, o + k, none⟩ = some v ∧ v.oneCell' = true := by
  intro k hk
  obtain ⟨ai, ci, ao, ct, h⟩ := hc (k / 6) (by omega)
  have hd : k = k / 6 * 6 + k % 6 := by omega
  rcases (show k % 6 = 0 ∨ k % 6 = 1 ∨ k % 6 = 2 ∨ k % 6 = 3 ∨ k % 6 = 4 ∨ k % 6 = 5 by omega) with e | e | e | e | e | e <;> rw [e] at hd
  · exact ⟨_, by rw [hd]; exact h.c0, rfl⟩
  · exact ⟨_, by rw [hd, ← Nat.add_assoc]; exact h.c1, rfl⟩
  · exact ⟨_, by rw [hd, ← Nat.add_assoc]; exact h.c2, rfl⟩
  · exact ⟨_, by rw [hd, ← Nat.add_assoc]; exact h.c3, rfl⟩
  · exact ⟨_, by rw [hd, ← Nat.add_assoc]; exact h.c4, rfl⟩
  · exact ⟨_, by rw [hd, ← Nat.add_assoc]; exact h.c5, rfl⟩
/-- The cells that a copy takes over. -/
def rowCells (w : World) (bk o n : Nat) : List Value := (List.range (n * 6)).map fun k => (w.cell? ⟨bk, o + k, none⟩).getD undef
theorem rowCells_length (w : World) (bk o n : Nat) : (rowCells w bk o n).length = n * 6 := by simp [rowCells]
theorem rowCells_at {w : World} {bk o n k : Nat} {v : Value} (h : w.cell? ⟨bk, o + k, none⟩ = some v) (hk : k < n * 6) : (rowCells w bk o n)[k]? = some v := by
  unfold rowCells
  rw [List.getElem?_map, List.getElem?_range hk, Option.map_some, h]
  rfl

/-- An attribute in a block whose lists lie elsewhere. -/
def Far (w : World) (g p : Nat) (a : At) : Prop := ∃ ai ci ao ct, ElAt w g p a ai ci ao ct ∧ (a.ints = [] ∨ ∀ x, ai = some x → x.block ≠ g) ∧ (a.texts = [] ∨ ∀ x, ao = some x → x.block ≠ g)
theorem ints_old {w : World} {ai : Option Addr} {zs : List Int} (h : IntsAt w ai zs) {g : Nat} (hg : w.heap.size ≤ g) : zs = [] ∨ ∀ x, ai = some x → x.block ≠ g := by
  rcases h with h | ⟨a, rfl, hc⟩
  · exact .inl h
  · by_cases h0 : zs.length = 0
    · exact .inl (List.eq_nil_of_length_eq_zero h0)
    · refine .inr fun x e => ?_
      cases e
      have := block_lt_of_cell (hc 0 (by omega))
      rw [add_block] at this
      omega
theorem strs_old {w : World} {ai : Option Addr} {zs : List ByteArray} (h : StrsAt w ai zs) {g : Nat} (hg : w.heap.size ≤ g) : zs = [] ∨ ∀ x, ai = some x → x.block ≠ g := by
  rcases h with h | ⟨a, rfl, hc⟩
  · exact .inl h
  · by_cases h0 : zs.length = 0
    · exact .inl (List.eq_nil_of_length_eq_zero h0)
    · refine .inr fun x e => ?_
      cases e
      have := block_lt_of_cell (hc 0 (by omega))
      rw [add_block] at this
      omega
/-- A copy over the whole of a row of the call's own: attributes. -/
theorem copy_whole6 {w : World} {T ty elem : TypeId} {g n dCap sCap : Nat} {a : Addr} {cur : Array Value} {t : TypeId} {cs : List Value} (hu : Tryz.prog.underlying T = some (.slice elem)) (hs : (Tryz.prog.info? elem).map (·.size) = some 6)
    (hg : w.heap[g]? = some (.cells cur t (0, 0))) (hn : cs.length = n * 6) (hc : cur.size = n * 6) (hsrc : ∀ j v, cs[j]? = some v → w.cell? (a.add j) = some v) (h1 : ∀ v ∈ cs, v.oneCell' = true) :
    (Builtin.copy_ #[T, T] ty #[.slice (some ⟨g, 0, none⟩) n dCap, .slice (some a) n sCap]).run Tryz.prog w = .ok (goInt n) (w.setRow g cs.toArray) := by
  have hl := run_loadCells_list (P := Tryz.prog) w a cs hsrc
  have hst := run_storeCells_at Tryz.prog g 0 t cs 0 cur w hg (by omega) h1
  have hd : cur.toList.drop cs.length = [] := List.drop_eq_nil_of_le (by simp; omega)
  rw [List.take_zero, List.nil_append, Nat.zero_add, hd, List.append_nil] at hst
  cases hq : Tryz.prog.info? elem with
  | none => simp [hq] at hs
  | some i =>
    have hi : i.size = 6 := by simpa [hq] using hs
    simp [Builtin.copy_, run_underlying hu, Builtin.lenOf, Builtin.firstCells, sizeOf, typeInfo, hq, hi, ← hn, hl, hst]
theorem six_attr : (Tryz.prog.info? 29).map (·.size) = some 6 := by kernel_rfl
theorem info_attr : ∃ i, Tryz.prog.info? 29 = some i ∧ i.zero = some (.agg #[.string ⟨#[]⟩, .int .i64 0, .int .i64 0, .string ⟨#[]⟩, .slice none 0 0, .slice none 0 0]) ∧ i.size = 6 ∧ i.bytes ≤ 100000 := by
  have h1 : (Tryz.prog.info? 29).map (·.zero) = some (some (.agg #[.string ⟨#[]⟩, .int .i64 0, .int .i64 0, .string ⟨#[]⟩, .slice none 0 0, .slice none 0 0])) := by kernel_rfl
  have h2 : (Tryz.prog.info? 29).map (·.size) = some 6 := by kernel_rfl
  have h3 : (Tryz.prog.info? 29).map (fun i => decide (i.bytes ≤ 100000)) = some true := by kernel_rfl
  cases hi : Tryz.prog.info? 29 with
  | none => rw [hi] at h1; cases h1
  | some i =>
    rw [hi] at h1 h2 h3
    exact ⟨i, rfl, Option.some.inj h1, Option.some.inj h2, of_decide_eq_true (Option.some.inj h3)⟩
theorem make_attr (n : Nat) (hn : n ≤ 1000) (u : World) : ∃ cs : Array Value, cs.size = n * 6 ∧ (Instr.makeSlice 22 (.int .i64 n) (.int .i64 n)).run Tryz.prog u =
    .ok (.slice (some ⟨u.heap.size, 0, none⟩) n n) (u.alloc (.cells cs 29)) := by
  obtain ⟨i, hi, hz, hsz, hby⟩ := info_attr
  have h := run_make (P := Tryz.prog) u 22 29 i _ Tryz.underlying22 hi hz .i64 .i64 n n (by omega) (Int.le_refl _) (by
    have : (i.bytes : Int) * n ≤ 100000 * n := Int.mul_le_mul_of_nonneg_right (by omega) (by omega)
    omega) (by omega)
  rw [hsz, Int.toNat_natCast] at h
  exact ⟨_, by simp [madeCells], h⟩

set_option maxHeartbeats 1000000 in
set_option maxRecDepth 100000 in
/-- A row of the call's own with the attributes of a list. -/
theorem fresh_attrs (ao : Option Addr) (l : List At) (c : Nat) (hn : l.length ≤ 1000) (w : World) (hz : ListAt w ao l) :
    Calls Tryz.prog 70 #[.slice ao l.length c] w fun e w' => (e = .returned (.slice none 0 0) ∧ l = [] ∧ w' = w) ∨
      (∃ cs : Array Value, e = .returned (.slice (some ⟨w.heap.size, 0, none⟩) l.length l.length) ∧ w'.heap[w.heap.size]? = some (.cells cs 29 (0, 0)) ∧ cs.size = l.length * 6 ∧ (∀ j, j < l.length → Far w' w.heap.size (j * 6) (nth l j)) ∧ Below w.heap.size w w') := by
  have HZ := Lib.hid hz
  clear hz
  by_cases h0 : l.length = 0
  · have hl := Lib.hid (List.eq_nil_of_length_eq_zero h0)
    go_enter Tryz.func70, Tryz.ntmps70
    go_wp2_with fail
    go_ret
    exact .inl ⟨rfl, hl.out, rfl⟩
  · obtain ⟨z0, hz0, hmk⟩ := make_attr l.length hn w
    have Z0 := Lib.hid hz0
    clear hz0
    have hz2 : ¬ (l.length : Int) = 0 := by omega
    go_enter Tryz.func70, Tryz.ntmps70
    go_wp2_with fail
    rcases HZ.out with h | ⟨bk, o, rfl, hc⟩
    · exact absurd (by rw [h]; rfl) h0
    have hcell := ListAt.cells hc
    have hadd : ∀ j, (⟨bk, o, none⟩ : Addr).add j = ⟨bk, o + j, none⟩ := fun j => by unfold Addr.add; split <;> simp_all
    have hcp := copy_whole6 (w := w.alloc (.cells z0 29)) (T := 22) (ty := 3) (elem := 29) (g := w.heap.size) (n := l.length) (dCap := l.length) (sCap := c) (a := ⟨bk, o, none⟩) (t := 29)
      (cs := rowCells w bk o l.length) Tryz.underlying22 six_attr (heap_alloc_new w _) (rowCells_length w bk o l.length) Z0.out (fun j v h => by
        have hj : j < l.length * 6 := by have := (List.getElem?_eq_some_iff.1 h).1; rwa [rowCells_length] at this
        obtain ⟨v', hv', _⟩ := hcell j hj
        rw [rowCells_at hv' hj] at h
        cases h
        rw [hadd]
        exact ((alloc_below w _).cell (block_lt_of_cell hv')).trans hv') (fun v hv => by
        obtain ⟨j, hj, rfl⟩ := List.mem_iff_getElem.1 hv
        rw [rowCells_length] at hj
        obtain ⟨v', hv', h1⟩ := hcell j hj
        have := rowCells_at hv' hj
        rw [List.getElem?_eq_getElem (by rw [rowCells_length]; exact hj)] at this
        rw [Option.some.inj this]
        exact h1)
    rw [hcp]
    have R1 := Lib.hid (setRow_heap (w.alloc (.cells z0 29)) w.heap.size _ (rowCells w bk o l.length).toArray _ _ (heap_alloc_new w _))
    have R2 := Lib.hid (below_row (W := w) (cs := z0) (T := 29) (cs' := (rowCells w bk o l.length).toArray))
    generalize (w.alloc (.cells z0 29)).setRow w.heap.size (rowCells w bk o l.length).toArray = w2 at R1 R2 ⊢
    have HC := Lib.hid hc
    clear hcp hcell hadd HZ hmk Z0 hc
    go_wp2_with fail
    go_ret
    refine .inr ⟨_, rfl, R1.out, by rw [List.size_toArray, rowCells_length], fun j hj => ?_, R2.out⟩
    obtain ⟨ai, ci, aq, ct, h⟩ := HC.out j hj
    have hcl : ∀ k v, k < 6 → w.cell? ⟨bk, o + j * 6 + k, none⟩ = some v → w2.cell? ⟨w.heap.size, j * 6 + k, none⟩ = some v := fun k v hk hv => by
      have := rowCells_at (n := l.length) (k := j * 6 + k) (by rw [← Nat.add_assoc]; exact hv) (by omega)
      simp [World.cell?, R1.out, this]
    exact ⟨ai, ci, aq, ct, ⟨hcl 0 _ (by omega) h.c0, hcl 1 _ (by omega) h.c1, hcl 2 _ (by omega) h.c2, hcl 3 _ (by omega) h.c3, hcl 4 _ (by omega) h.c4, hcl 5 _ (by omega) h.c5,
      h.ints.below R2.out, h.texts.below R2.out, h.icap, h.tcap, h.wf⟩, ints_old h.ints (Nat.le_refl _), strs_old h.texts (Nat.le_refl _)⟩

theorem ints_keep {w w' : World} {ai : Option Addr} {zs : List Int} {g : Nat} (h : IntsAt w ai zs) (hf : zs = [] ∨ ∀ x, ai = some x → x.block ≠ g) (hk : ∀ k, k ≠ g → w'.heap[k]? = w.heap[k]?) : IntsAt w' ai zs := by
  rcases h with h | ⟨a, rfl, hc⟩
  · exact .inl h
  · rcases hf with h0 | hf
    · exact .inl h0
    · exact .inr ⟨a, rfl, fun j hj => cell_block (hc j hj) (hk _ (by rw [add_block]; exact hf a rfl))⟩
theorem strs_keep {w w' : World} {ai : Option Addr} {zs : List ByteArray} {g : Nat} (h : StrsAt w ai zs) (hf : zs = [] ∨ ∀ x, ai = some x → x.block ≠ g) (hk : ∀ k, k ≠ g → w'.heap[k]? = w.heap[k]?) : StrsAt w' ai zs := by
  rcases h with h | ⟨a, rfl, hc⟩
  · exact .inl h
  · rcases hf with h0 | hf
    · exact .inl h0
    · exact .inr ⟨a, rfl, fun j hj => cell_block (hc j hj) (hk _ (by rw [add_block]; exact hf a rfl))⟩
/-- Six cells of a row written. -/
def six (cs : Array Value) (p : Nat) (u0 u1 u2 u3 u4 u5 : Value) : Array Value :=
  (((((cs.setIfInBounds p u0).setIfInBounds (p + 1) u1).setIfInBounds (p + 2) u2).setIfInBounds (p + 3) u3).setIfInBounds (p + 4) u4).setIfInBounds (p + 5) u5
theorem six_size (cs : Array Value) (p : Nat) (u0 u1 u2 u3 u4 u5 : Value) : (six cs p u0 u1 u2 u3 u4 u5).size = cs.size := by simp [six]
theorem six_off {cs : Array Value} {p k : Nat} {u0 u1 u2 u3 u4 u5 : Value} (h : k < p ∨ p + 6 ≤ k) : (six cs p u0 u1 u2 u3 u4 u5)[k]? = cs[k]? := by
  unfold six
  rw [Array.getElem?_setIfInBounds_ne (by omega), Array.getElem?_setIfInBounds_ne (by omega), Array.getElem?_setIfInBounds_ne (by omega), Array.getElem?_setIfInBounds_ne (by omega), Array.getElem?_setIfInBounds_ne (by omega), Array.getElem?_setIfInBounds_ne (by omega)]
theorem six_at {cs : Array Value} {p : Nat} {u0 u1 u2 u3 u4 u5 : Value} (h : p + 6 ≤ cs.size) :
    (six cs p u0 u1 u2 u3 u4 u5)[p]? = some u0 ∧ (six cs p u0 u1 u2 u3 u4 u5)[p + 1]? = some u1 ∧ (six cs p u0 u1 u2 u3 u4 u5)[p + 2]? = some u2 ∧ (six cs p u0 u1 u2 u3 u4 u5)[p + 3]? = some u3 ∧
    (six cs p u0 u1 u2 u3 u4 u5)[p + 4]? = some u4 ∧ (six cs p u0 u1 u2 u3 u4 u5)[p + 5]? = some u5 := by
  unfold six
  refine ⟨?_, ?_, ?_, ?_, ?_, ?_⟩ <;> simp only [Array.getElem?_setIfInBounds, Array.size_setIfInBounds] <;> simp <;> omega
theorem six_row {w : World} {g p : Nat} {cs : Array Value} {T : TypeId} {u0 u1 u2 u3 u4 u5 : Value} (h : w.heap[g]? = some (.cells cs T (0, 0))) :
    ((((((w.setCell ⟨g, p, none⟩ u0).setCell ⟨g, p + 1, none⟩ u1).setCell ⟨g, p + 2, none⟩ u2).setCell ⟨g, p + 3, none⟩ u3).setCell ⟨g, p + 4, none⟩ u4).setCell ⟨g, p + 5, none⟩ u5).heap[g]? = some (.cells (six cs p u0 u1 u2 u3 u4 u5) T (0, 0)) := by
  have h0 := heap_setCell_same _ g p _ T u0 h
  have h1 := heap_setCell_same _ g (p + 1) _ T u1 h0
  have h2 := heap_setCell_same _ g (p + 2) _ T u2 h1
  have h3 := heap_setCell_same _ g (p + 3) _ T u3 h2
  have h4 := heap_setCell_same _ g (p + 4) _ T u4 h3
  exact heap_setCell_same _ g (p + 5) _ T u5 h4
theorem six_other {w : World} {g p k : Nat} {u0 u1 u2 u3 u4 u5 : Value} (h : k ≠ g) :
    ((((((w.setCell ⟨g, p, none⟩ u0).setCell ⟨g, p + 1, none⟩ u1).setCell ⟨g, p + 2, none⟩ u2).setCell ⟨g, p + 3, none⟩ u3).setCell ⟨g, p + 4, none⟩ u4).setCell ⟨g, p + 5, none⟩ u5).heap[k]? = w.heap[k]? := by
  rw [heap_setCell_other _ _ _ _ h, heap_setCell_other _ _ _ _ h, heap_setCell_other _ _ _ _ h, heap_setCell_other _ _ _ _ h, heap_setCell_other _ _ _ _ h, heap_setCell_other _ _ _ _ h]
theorem below_six {B : Nat} {w W : World} (h : Below B w W) {b p : Nat} (hb : B ≤ b) {u0 u1 u2 u3 u4 u5 : Value} :
    Below B w ((((((W.setCell ⟨b, p, none⟩ u0).setCell ⟨b, p + 1, none⟩ u1).setCell ⟨b, p + 2, none⟩ u2).setCell ⟨b, p + 3, none⟩ u3).setCell ⟨b, p + 4, none⟩ u4).setCell ⟨b, p + 5, none⟩ u5) :=
  (((((h.setCell (p := ⟨b, p, none⟩) hb _).setCell (p := ⟨b, p + 1, none⟩) hb _).setCell (p := ⟨b, p + 2, none⟩) hb _).setCell (p := ⟨b, p + 3, none⟩) hb _).setCell (p := ⟨b, p + 4, none⟩) hb _).setCell (p := ⟨b, p + 5, none⟩) hb _
theorem row_cell {w : World} {g k : Nat} {cs : Array Value} {T : TypeId} (h : w.heap[g]? = some (.cells cs T (0, 0))) : w.cell? ⟨g, k, none⟩ = cs[k]? := by simp [World.cell?, h]
theorem row_free {w : World} {g : Nat} {cs : Array Value} {T : TypeId} (h : w.heap[g]? = some (.cells cs T (0, 0))) (k : Nat) : w.frozen? ⟨g, k, none⟩ = false := by simp [World.frozen?, h]

/-- A row of the call's own holds the attributes of a list; their lists lie elsewhere. -/
structure RowAt (w : World) (g : Nat) (l : List At) : Prop where
  row : ∃ cs, w.heap[g]? = some (.cells cs 29 (0, 0)) ∧ cs.size = l.length * 6
  far : ∀ j, j < l.length → Far w g (j * 6) (nth l j)
theorem Far.below {w w' : World} {g p : Nat} {a : At} (h : Far w g p a) (hb : Below w.heap.size w w') : Far w' g p a := by
  obtain ⟨ai, ci, ao, ct, h, h1, h2⟩ := h
  exact ⟨ai, ci, ao, ct, h.below hb, h1, h2⟩
theorem RowAt.below {w w' : World} {g : Nat} {l : List At} (h : RowAt w g l) (hb : Below w.heap.size w w') : RowAt w' g l := by
  obtain ⟨⟨cs, h1, h2⟩, h3⟩ := h
  exact ⟨⟨cs, (hb.block _ (lt_of_block h1)).trans h1, h2⟩, fun j hj => (h3 j hj).below hb⟩
theorem RowAt.list {w : World} {g : Nat} {l : List At} (h : RowAt w g l) : ListAt w (some ⟨g, 0, none⟩) l := by
  refine .inr ⟨g, 0, rfl, fun j hj => ?_⟩
  obtain ⟨ai, ci, ao, ct, h, _, _⟩ := h.far j hj
  exact ⟨ai, ci, ao, ct, by rw [Nat.zero_add]; exact h⟩
/-- The same attribute written over itself with other lists. -/
theorem RowAt.write {w : World} {g q : Nat} {l : List At} (h : RowAt w g l) (hq : q < l.length) {v : Value} {ai : Option Addr} {ci : Nat} {ao : Option Addr} {ct : Nat} (ha : AttAt w (nth l q) v ai ci ao ct)
    (hi : ∀ x, ai = some x → x.block ≠ g) (ho : ∀ x, ao = some x → x.block ≠ g) :
    RowAt ((((((w.setCell ⟨g, q * 6, none⟩ (.string (nth l q).name)).setCell ⟨g, q * 6 + 1, none⟩ (.int .i64 (nth l q).kind)).setCell ⟨g, q * 6 + 2, none⟩ (.int .i64 (nth l q).num)).setCell ⟨g, q * 6 + 3, none⟩ (.string (nth l q).text)).setCell ⟨g, q * 6 + 4, none⟩ (.slice ai (nth l q).ints.length ci)).setCell ⟨g, q * 6 + 5, none⟩ (.slice ao (nth l q).texts.length ct)) g l := by
  obtain ⟨⟨cs, h1, h2⟩, h3⟩ := h
  have hr := six_row (p := q * 6) (u0 := .string (nth l q).name) (u1 := .int .i64 (nth l q).kind) (u2 := .int .i64 (nth l q).num) (u3 := .string (nth l q).text) (u4 := .slice ai (nth l q).ints.length ci) (u5 := .slice ao (nth l q).texts.length ct) h1
  have hk : ∀ k, k ≠ g → _ := fun k hk => six_other (w := w) (g := g) (p := q * 6) (k := k) (u0 := .string (nth l q).name) (u1 := .int .i64 (nth l q).kind) (u2 := .int .i64 (nth l q).num) (u3 := .string (nth l q).text) (u4 := .slice ai (nth l q).ints.length ci) (u5 := .slice ao (nth l q).texts.length ct) hk
  refine ⟨⟨_, hr, by rw [six_size, h2]⟩, fun j hj => ?_⟩
  by_cases hjq : j = q
  · subst hjq
    obtain ⟨e0, e1, e2, e3, e4, e5⟩ := six_at (cs := cs) (p := j * 6) (u0 := .string (nth l j).name) (u1 := .int .i64 (nth l j).kind) (u2 := .int .i64 (nth l j).num) (u3 := .string (nth l j).text) (u4 := .slice ai (nth l j).ints.length ci) (u5 := .slice ao (nth l j).texts.length ct) (by omega)
    exact ⟨ai, ci, ao, ct, ⟨(row_cell hr).trans e0, (row_cell hr).trans e1, (row_cell hr).trans e2, (row_cell hr).trans e3, (row_cell hr).trans e4, (row_cell hr).trans e5,
      ints_keep ha.ints (.inr hi) hk, strs_keep ha.texts (.inr ho) hk, ha.icap, ha.tcap, ha.wf⟩, .inr hi, .inr ho⟩
  · obtain ⟨bi, bci, bo, bct, hb, g1, g2⟩ := h3 j hj
    have hcl : ∀ k v, k < 6 → w.cell? ⟨g, j * 6 + k, none⟩ = some v → _ = some v := fun k v hk6 hv => (row_cell (k := j * 6 + k) hr).trans ((six_off (by omega)).trans ((row_cell h1).symm.trans hv))
    exact ⟨bi, bci, bo, bct, ⟨hcl 0 _ (by omega) hb.c0, hcl 1 _ (by omega) hb.c1, hcl 2 _ (by omega) hb.c2, hcl 3 _ (by omega) hb.c3, hcl 4 _ (by omega) hb.c4, hcl 5 _ (by omega) hb.c5,
      ints_keep hb.ints g1 hk, strs_keep hb.texts g2 hk, hb.icap, hb.tcap, hb.wf⟩, g1, g2⟩
end Go.Proofs.YtiofnjnaleglgaaGreatDoor

/-
  'copiedList' by its contract.
-/
namespace Go.Proofs.YtiofnjnaleglgaaGreatDoor
open Go.RowKit

set_option maxHeartbeats 2000000 in
set_option maxRecDepth 100000 in
/-- A copy of a list of attributes shares no memory with it. -/
theorem copiedList_cap (so : Option Addr) (l : List At) (c : Nat) (hn : l.length ≤ 1000) (hi : ∀ a ∈ l, a.ints.length ≤ 1000 ∧ a.texts.length ≤ 1000) (w : World) (hz : ListAt w so l) :
    Calls Tryz.prog 40 #[.slice so l.length c] w fun e w' => ∃ so' : Option Addr, e = .returned (.slice so' l.length l.length) ∧ ListAt w' so' l ∧ Below w.heap.size w w' := by
  have HI := Lib.hid hi
  have HZ := Lib.hid hz
  clear hi hz
  go_enter Tryz.func40, Tryz.ntmps40
  go_wp2_with fail
  refine (fresh_attrs so l c hn w HZ.out).mono ?_
  rintro e w1 (⟨rfl, hl, rfl⟩ | ⟨cs, rfl, hr, hcs, hfar, hb⟩)
  · subst hl
    clear HZ HI
    go_wp2_with fail
    go_loopw [9] (fun i wr => i = .int .i64 0 ∧ Hid (wr = w1)) (fun _ _ => 0)
    case atStart => exact ⟨rfl, rfl⟩
    case round =>
      obtain ⟨rfl, hw⟩ := hrel
      go_wp2_with fail
      go_ret
      exact ⟨none, rfl, .inl rfl, by rw [hw.out]; exact Below.refl _ _⟩
  · have HR := Lib.hid (RowAt.mk ⟨cs, hr, hcs⟩ hfar)
    have B1 := Lib.hid hb
    have HS1 := Lib.hid (lt_of_block hr)
    clear hr hcs hfar hb HZ
    generalize hs : w.heap.size = S at HR B1 HS1 ⊢
    have Hs := Lib.hid hs
    clear hs
    go_wp2_with fail
    go_loopw [9] (fun i wr => ∃ q : Nat, q ≤ l.length ∧ i = .int .i64 q ∧ Hid (RowAt wr S l ∧ Below S w wr ∧ S < wr.heap.size)) (fun i _ => l.length - (intOf i).toNat)
    case atStart => exact ⟨0, Nat.zero_le _, rfl, HR.out, B1.out, HS1.out⟩
    case round =>
      obtain ⟨q, hq, rfl, hh⟩ := hrel
      by_cases hlt : q < l.length
      · obtain ⟨ai, ci, ao, ct, hel, hfi, hft⟩ := hh.out.1.far q hlt
        have HEL := Lib.hid hel
        have HJ := Lib.hid (HI.out (nth l q) (by rw [nth_get hlt]; exact List.getElem_mem hlt))
        clear hel hfi hft
        have HRW := Lib.hid (fun (W : World) (hW : RowAt W S l) (v : Value) (bi : Option Addr) (bci : Nat) (bo : Option Addr) (bct : Nat) (ha : AttAt W (nth l q) v bi bci bo bct) (h1 : ∀ x, bi = some x → x.block ≠ S) (h2 : ∀ x, bo = some x → x.block ≠ S) => hW.write hlt ha h1 h2)
        generalize nth l q = a at HEL HJ HRW
        have c0 := HEL.out.c0
        have c1 := HEL.out.c1
        have c2 := HEL.out.c2
        have c3 := HEL.out.c3
        have c4 := HEL.out.c4
        have c5 := HEL.out.c5
        have T1 := Lib.hid (heap_alloc_new wr (.cells #[.string a.name, .int .i64 a.kind, .int .i64 a.num, .string a.text, .slice ai a.ints.length ci, .slice ao a.texts.length ct] 29))
        have R1 := Lib.hid (hh.out.1.below (alloc_below wr (.cells #[.string a.name, .int .i64 a.kind, .int .i64 a.num, .string a.text, .slice ai a.ints.length ci, .slice ao a.texts.length ct] 29)))
        have B2 := Lib.hid (hh.out.2.1.trans ((alloc_below wr (.cells #[.string a.name, .int .i64 a.kind, .int .i64 a.num, .string a.text, .slice ai a.ints.length ci, .slice ao a.texts.length ct] 29)).mono (by have := hh.out.2.2; omega)))
        have HS2 := Lib.hid (show S < (wr.alloc (.cells #[.string a.name, .int .i64 a.kind, .int .i64 a.num, .string a.text, .slice ai a.ints.length ci, .slice ao a.texts.length ct] 29)).heap.size from by have := hh.out.2.2; simp; omega)
        have hA := Lib.hid (HEL.out.att.below (alloc_below wr (.cells #[.string a.name, .int .i64 a.kind, .int .i64 a.num, .string a.text, .slice ai a.ints.length ci, .slice ao a.texts.length ct] 29)))
        clear hh HR B1 HS1
        go_upto_region 5 with fail
        generalize wr.alloc (.cells #[.string a.name, .int .i64 a.kind, .int .i64 a.num, .string a.text, .slice ai a.ints.length ci, .slice ao a.texts.length ct] 29) = W1 at T1 R1 B2 HS2 hA ⊢
        generalize wr.heap.size = D at T1 ⊢
        clear c0 c1 c2 c3 c4 c5 HEL
        obtain ⟨d0, d1, d2, d3, d4, d5, df⟩ := cells6 T1.out
        go_wp2_with fail
        refine (copied_any a _ ai ci ao ct HJ.out.1 HJ.out.2 W1 hA.out).mono ?_
        rintro e w2 ⟨v', ai', ci', ao', ct', rfl, ha', hn1, hn2, _, _, hb⟩
        obtain rfl := ha'.val
        have HA2 := Lib.hid ha'
        have HN1 := Lib.hid (show ∀ x, ai' = some x → x.block ≠ S from fun x e => by have := hn1 x e; have := HS2.out; omega)
        have HN2 := Lib.hid (show ∀ x, ao' = some x → x.block ≠ S from fun x e => by have := hn2 x e; have := HS2.out; omega)
        have HR2 := Lib.hid (R1.out.below hb)
        have B3 := Lib.hid (B2.out.trans (hb.mono (by have := HS2.out; omega)))
        have HS3 := Lib.hid (Nat.lt_of_lt_of_le HS2.out hb.size)
        obtain ⟨⟨cs2, hr2, _⟩, hf2⟩ := HR2.out
        obtain ⟨bi, bci, bo, bct, hel2, _, _⟩ := hf2 q hlt
        have e0 := hel2.c0
        have e1 := hel2.c1
        have e2 := hel2.c2
        have e3 := hel2.c3
        have e4 := hel2.c4
        have e5 := hel2.c5
        have ef := row_free hr2
        clear ha' hn1 hn2 hb hel2 hf2 hr2 T1 R1 B2 HS2 hA d0 d1 d2 d3 d4 d5 df HJ
        go_wp2_with fail
        go_roundw
        · exact ⟨q + 1, by omega, rfl, HRW.out w2 HR2.out _ ai' ci' ao' ct' HA2.out HN1.out HN2.out, below_six B3.out (Nat.le_refl _), by simp only [setCell_size]; exact HS3.out⟩
        · simp only [intOf]; omega
      · have hq' : q = l.length := by omega
        subst hq'
        go_wp2_with fail
        go_ret
        exact ⟨_, rfl, hh.out.1.list, by rw [Hs.out]; exact hh.out.2.1⟩
theorem copiedList_any (so : Option Addr) (l : List At) (c : Nat) (hn : l.length ≤ 1000) (hi : ∀ a ∈ l, a.ints.length ≤ 1000 ∧ a.texts.length ≤ 1000) (w : World) (hz : ListAt w so l) :
    Calls Tryz.prog 40 #[.slice so l.length c] w fun e w' => ∃ (so' : Option Addr) (c' : Nat), e = .returned (.slice so' l.length c') ∧ l.length ≤ c' ∧ ListAt w' so' l ∧ Below w.heap.size w w' :=
  (copiedList_cap so l c hn hi w hz).mono fun _ _ ⟨so', h1, h2, h3⟩ => ⟨so', _, h1, Nat.le_refl _, h2, h3⟩
end Go.Proofs.YtiofnjnaleglgaaGreatDoor

/-
  'Get' by its contract.
-/
namespace Go.Proofs.YtiofnjnaleglgaaGreatDoor
open Go.RowKit

theorem right_lens {a : At} (h : rightB a = true) : a.ints.length ≤ 1000 ∧ a.texts.length ≤ 1000 := by
  obtain ⟨_, ⟨n, z, rfl⟩ | ⟨n, t, rfl, _⟩ | ⟨n, t, rfl, _⟩ | ⟨n, t, rfl, _⟩ | ⟨n, zs, rfl, hz⟩ | ⟨n, ss, rfl, hs, _⟩⟩ := right_cases h
  · exact ⟨by simp, by simp⟩
  · exact ⟨by simp, by simp⟩
  · exact ⟨by simp, by simp⟩
  · exact ⟨by simp, by simp⟩
  · exact ⟨by show zs.length ≤ 1000; omega, by simp⟩
  · exact ⟨by simp, by show ss.length ≤ 1000; omega⟩
/-- Which error 'Get' and 'Drop' answer. -/
def findErr (l : List At) (nm : ByteArray) : Int := if rightL l then (if posL l nm < l.length then 0 else 4) else 20
theorem findErr_bad {l : List At} {nm : ByteArray} (h : rightL l = false) : findErr l nm = 20 := by unfold findErr; rw [h]; rfl
theorem findErr_yes {l : List At} {nm : ByteArray} (h : rightL l = true) (hq : posL l nm < l.length) : findErr l nm = 0 := by unfold findErr; rw [h, if_pos rfl, if_pos hq]
theorem findErr_no {l : List At} {nm : ByteArray} (h : rightL l = true) (hp : ¬ posL l nm < l.length) : findErr l nm = 4 := by unfold findErr; rw [h, if_pos rfl, if_neg hp]
/-- What 'Get' answers. -/
def getL (l : List At) (nm : ByteArray) : At := if findErr l nm = 0 then nth l (posL l nm) else At.zero
theorem getL_yes {l : List At} {nm : ByteArray} (h : findErr l nm = 0) : getL l nm = nth l (posL l nm) := by unfold getL; rw [if_pos h]
theorem getL_no {l : List At} {nm : ByteArray} (h : findErr l nm ≠ 0) : getL l nm = At.zero := by unfold getL; rw [if_neg h]

set_option maxHeartbeats 2000000 in
set_option maxRecDepth 100000 in
theorem Get_any (so : Option Addr) (l : List At) (c : Nat) (nm : ByteArray) (hn : l.length ≤ 9223372036854775807) (w : World) (hl : ListAt w so l) (hE : Env w) :
    Calls Tryz.prog 14 #[.slice so l.length c, .string nm] w fun e w' => ∃ (v : Value) (ai : Option Addr) (ci : Nat) (ao : Option Addr) (ct : Nat),
      e = .returned (.tuple #[v, .int .i64 (findErr l nm)]) ∧ AttAt w' (getL l nm) v ai ci ao ct ∧ Below w.heap.size w w' := by
  have HE := Lib.hid hE
  have HL := Lib.hid hl
  clear hE hl
  have B0 := Lib.hid (alloc_below w (.cells #[.string ⟨#[]⟩, .int .i64 0, .int .i64 0, .string ⟨#[]⟩, .slice none 0 0, .slice none 0 0] 29))
  have T0 := Lib.hid (heap_alloc_new w (.cells #[.string ⟨#[]⟩, .int .i64 0, .int .i64 0, .string ⟨#[]⟩, .slice none 0 0, .slice none 0 0] 29))
  go_enter Tryz.func14, Tryz.ntmps14
  go_upto_region 1 with fail
  generalize w.alloc (.cells #[.string ⟨#[]⟩, .int .i64 0, .int .i64 0, .string ⟨#[]⟩, .slice none 0 0, .slice none 0 0] 29) = W0 at B0 T0 ⊢
  generalize hs : w.heap.size = S at B0 T0 ⊢
  have Hs := Lib.hid hs
  clear hs
  go_wp2_with fail
  refine (find_any so l c nm hn W0 (HL.out.below (by rw [Hs.out]; exact B0.out)) (HE.out.below (by rw [Hs.out]; exact B0.out))).mono ?_
  rintro e w1 ⟨rfl, hb⟩
  have T1 := Lib.hid ((hb.block _ (lt_of_block T0.out)).trans T0.out)
  have B1 := Lib.hid (B0.out.trans (hb.mono (by have := lt_of_block T0.out; omega)))
  clear hb B0 T0
  have hbad : findErr l nm ≠ 0 → findOut l nm = .tuple #[.int .i64 0, .int .i64 (findErr l nm)] := fun h => by
    cases hr : rightL l with
    | false => rw [findOut_bad hr, findErr_bad hr]
    | true =>
      by_cases hp : posL l nm < l.length
      · exact absurd (findErr_yes hr hp) h
      · rw [findOut_no hr (by have : posL l nm ≤ l.length := List.findIdx_le_length
                              omega), findErr_no hr hp]
  by_cases he : findErr l nm = 0
  · have hrp : rightL l = true ∧ posL l nm < l.length := by
      cases hr : rightL l with
      | false => rw [findErr_bad hr] at he; exact absurd he (by decide)
      | true =>
        by_cases hp : posL l nm < l.length
        · exact ⟨rfl, hp⟩
        · rw [findErr_no hr hp] at he; exact absurd he (by decide)
    rw [findOut_yes hrp.1 rfl hrp.2]
    have hq := hrp.2
    have HG := Lib.hid (getL_yes he)
    have HR := Lib.hid (right_lens (rightL_all hrp.1 (nth l (posL l nm)) (by rw [nth_get hq]; exact List.getElem_mem hq)))
    have HF := Lib.hid he
    clear hbad hrp he
    rcases HL.out.below (w' := w1) (by rw [Hs.out]; exact B1.out) with h0 | ⟨bk, o, rfl, hc⟩
    · rw [h0] at hq; exact absurd hq (Nat.not_lt_zero _)
    obtain ⟨ai, ci, ao, ct, hel⟩ := hc _ hq
    generalize posL l nm = q at hq hel HG HR
    have HEL := Lib.hid hel
    clear hel hc
    generalize nth l q = a at HEL HR HG
    have c0 := HEL.out.c0
    have c1 := HEL.out.c1
    have c2 := HEL.out.c2
    have c3 := HEL.out.c3
    have c4 := HEL.out.c4
    have c5 := HEL.out.c5
    go_wp2_with fail
    refine (copied_any a _ ai ci ao ct HR.out.1 HR.out.2 w1 HEL.out.att).mono ?_
    rintro e w2 ⟨v', ai', ci', ao', ct', rfl, ha', hn1, hn2, _, _, hb⟩
    obtain rfl := ha'.val
    have HA2 := Lib.hid ha'
    have hS1 := lt_of_block T1.out
    have N1 := Lib.hid (show ∀ x, ai' = some x → S + 1 ≤ x.block from fun x e => by have := hn1 x e; omega)
    have N2 := Lib.hid (show ∀ x, ao' = some x → S + 1 ≤ x.block from fun x e => by have := hn2 x e; omega)
    have T2 := Lib.hid ((hb.block _ hS1).trans T1.out)
    have B2 := Lib.hid (B1.out.trans (hb.mono (by omega)))
    clear ha' hn1 hn2 hb hS1 T1 B1 c0 c1 c2 c3 c4 c5 HEL HR
    obtain ⟨d0, d1, d2, d3, d4, d5, df⟩ := cells6 T2.out
    go_wp2_with fail
    refine bodyPost_ret (v := .tuple #[.agg #[.string a.name, .int .i64 a.kind, .int .i64 a.num, .string a.text, .slice ai' a.ints.length ci', .slice ao' a.texts.length ct'], .int .i64 0]) (results_cell_tmp Tryz.results14 rfl rfl (attVarA (set6_block T2.out))) rfl ?_
    have hk6 : ∀ k, S + 1 ≤ k → _ := fun k hk => set6_other (w := w2) (b := S) (k := k) (u0 := .string a.name) (u1 := .int .i64 a.kind) (u2 := .int .i64 a.num) (u3 := .string a.text) (u4 := .slice ai' a.ints.length ci') (u5 := .slice ao' a.texts.length ct') (by omega)
    refine ⟨_, ai', ci', ao', ct', by rw [HF.out], ?_, by rw [Hs.out]; exact below_set6 B2.out (Nat.le_refl _)⟩
    rw [HG.out]
    exact ⟨rfl, HA2.out.ints.moved N1.out hk6, HA2.out.texts.moved N2.out hk6, HA2.out.icap, HA2.out.tcap, HA2.out.wf⟩
  · rw [hbad he]
    have HG := Lib.hid (getL_no he)
    clear hbad
    generalize hz : findErr l nm = z at he ⊢
    have HZ := Lib.hid hz
    clear hz
    obtain ⟨d0, d1, d2, d3, d4, d5, df⟩ := cells6 T1.out
    go_wp2_with fail
    refine bodyPost_ret (v := .tuple #[.agg #[.string ⟨#[]⟩, .int .i64 0, .int .i64 0, .string ⟨#[]⟩, .slice none 0 0, .slice none 0 0], .int .i64 z]) (results_cell_tmp Tryz.results14 rfl rfl (attVarA (set6_block T1.out))) rfl ?_
    refine ⟨_, none, 0, none, 0, by rw [HZ.out], ?_, by rw [Hs.out]; exact below_set6 B1.out (Nat.le_refl _)⟩
    rw [HG.out]
    exact AttAt.zero _
end Go.Proofs.YtiofnjnaleglgaaGreatDoor

/-
  'Value' and 'Read' by their contracts.
-/
namespace Go.Proofs.YtiofnjnaleglgaaGreatDoor
open Go.RowKit

/-- What 'limited' answers. -/
def limErr (s : ByteArray) : Int := if 262144 < s.size then 2 else 0
def limStr (s : ByteArray) : ByteArray := if 262144 < s.size then ⟨#[]⟩ else s
set_option maxHeartbeats 400000 in
set_option maxRecDepth 100000 in
theorem limited_any (s : ByteArray) (w : World) :
    Calls Tryz.prog 53 #[.string s] w fun e w' => e = .returned (.tuple #[.string (limStr s), .int .i64 (limErr s)]) ∧ Below w.heap.size w w' := by
  by_cases h : 262144 < s.size
  · have h1 := Lib.hid (show limStr s = ⟨#[]⟩ from if_pos h)
    have h2 := Lib.hid (show limErr s = 2 from if_pos h)
    have hx : (262144 : Int) < (s.size : Int) := by omega
    clear h
    go_enter Tryz.func53, Tryz.ntmps53
    go_wp2_with fail
    go_ret2
    exact ⟨by rw [h1.out, h2.out]; rfl, Below.refl _ _⟩
  · have h1 := Lib.hid (show limStr s = s from if_neg h)
    have h2 := Lib.hid (show limErr s = 0 from if_neg h)
    have hx : ¬ (262144 : Int) < (s.size : Int) := by omega
    clear h
    go_enter Tryz.func53, Tryz.ntmps53
    go_wp2_with fail
    go_ret2
    exact ⟨by rw [h1.out, h2.out]; rfl, Below.refl _ _⟩

/-- What 'Value' answers. -/
def valStr (a : At) : ByteArray := if rightB a then limStr ⟨(valueL a).toArray⟩ else ⟨#[]⟩
def valErr (a : At) : Int := if rightB a then limErr ⟨(valueL a).toArray⟩ else 20
set_option maxHeartbeats 1000000 in
set_option maxRecDepth 100000 in
theorem Value_any (a : At) (v : Value) (ai : Option Addr) (ci : Nat) (ao : Option Addr) (ct : Nat) (w : World) (ha : AttAt w a v ai ci ao ct) (hE : Env w) :
    Calls Tryz.prog 31 #[v] w fun e w' => e = .returned (.tuple #[.string (valStr a), .int .i64 (valErr a)]) ∧ Below w.heap.size w w' := by
  have HE := Lib.hid hE
  have hv := ha.val
  have HA := Lib.hid ha
  clear ha hE
  subst hv
  have T0 := Lib.hid (heap_alloc_new w (.cells #[.string a.name, .int .i64 a.kind, .int .i64 a.num, .string a.text, .slice ai a.ints.length ci, .slice ao a.texts.length ct] 29))
  have B0 := Lib.hid (alloc_below w (.cells #[.string a.name, .int .i64 a.kind, .int .i64 a.num, .string a.text, .slice ai a.ints.length ci, .slice ao a.texts.length ct] 29))
  go_enter Tryz.func31, Tryz.ntmps31
  go_upto_region 1 with fail
  generalize w.alloc (.cells #[.string a.name, .int .i64 a.kind, .int .i64 a.num, .string a.text, .slice ai a.ints.length ci, .slice ao a.texts.length ct] 29) = W0 at B0 T0 ⊢
  generalize hs : w.heap.size = S at B0 T0 ⊢
  have Hs := Lib.hid hs
  clear hs
  obtain ⟨c0, c1, c2, c3, c4, c5, cf⟩ := cells6 T0.out
  go_wp2_with fail
  refine (isRight_any a _ ai ci ao ct W0 (HA.out.below (by rw [Hs.out]; exact B0.out)) (HE.out.below (by rw [Hs.out]; exact B0.out))).mono ?_
  rintro e w1 ⟨rfl, hb⟩
  have T1 := Lib.hid ((hb.block _ (lt_of_block T0.out)).trans T0.out)
  have B1 := Lib.hid (B0.out.trans (hb.mono (by have := lt_of_block T0.out; omega)))
  clear hb B0 T0 c0 c1 c2 c3 c4 c5 cf
  cases hr : rightB a with
  | false =>
    have h1 := Lib.hid (show valStr a = ⟨#[]⟩ from by unfold valStr; rw [hr]; rfl)
    have h2 := Lib.hid (show valErr a = 20 from by unfold valErr; rw [hr]; rfl)
    go_wp2_with fail
    go_ret2
    exact ⟨by rw [h1.out, h2.out]; rfl, by rw [Hs.out]; exact B1.out⟩
  | true =>
    have h1 := Lib.hid (show valStr a = limStr ⟨(valueL a).toArray⟩ from by unfold valStr; rw [hr]; rfl)
    have h2 := Lib.hid (show valErr a = limErr ⟨(valueL a).toArray⟩ from by unfold valErr; rw [hr]; rfl)
    obtain ⟨c0, c1, c2, c3, c4, c5, cf⟩ := cells6 T1.out
    go_wp2_with fail
    refine (value_any a _ ai ci ao ct hr w1 (HA.out.below (by rw [Hs.out]; exact B1.out)) (HE.out.below (by rw [Hs.out]; exact B1.out))).mono ?_
    rintro e w2 ⟨rfl, hb⟩
    have B2 := Lib.hid (B1.out.trans (hb.mono (by have := lt_of_block T1.out; omega)))
    clear hb B1 T1 c0 c1 c2 c3 c4 c5 cf
    generalize (⟨(valueL a).toArray⟩ : ByteArray) = V at h1 h2 ⊢
    go_wp2_with fail
    refine (limited_any V w2).mono ?_
    rintro e w3 ⟨rfl, hb⟩
    have B3 := Lib.hid (B2.out.trans (hb.mono (by rw [← Hs.out]; exact B2.out.size)))
    clear hb B2
    generalize limStr V = V1 at h1 ⊢
    generalize limErr V = z at h2 ⊢
    go_wp2_with fail
    go_ret2
    exact ⟨by rw [h1.out, h2.out]; rfl, by rw [Hs.out]; exact B3.out⟩

/-- What 'Read' answers. -/
def ReadAns (nm s : ByteArray) (w : World) (e : Ending) (w' : World) : Prop := Below w.heap.size w w' ∧
  ((isNameR nm.data.toList = true ∧ ∃ (a : At) (v : Value) (ai : Option Addr) (ci : Nat) (ao : Option Addr) (ct : Nat), e = .returned (.tuple #[v, .int .i64 0]) ∧ AttAt w' a v ai ci ao ct ∧ a.name = nm ∧ rightB a = true ∧ valueL a = s.data.toList) ∨
   (isNameR nm.data.toList = true ∧ e = .returned (.tuple #[.agg #[.string ⟨#[]⟩, .int .i64 0, .int .i64 0, .string ⟨#[]⟩, .slice none 0 0, .slice none 0 0], .int .i64 70]) ∧ ∀ b : At, rightB b = true → b.Wf → b.name = nm → valueL b ≠ s.data.toList) ∨
   (isNameR nm.data.toList = false ∧ e = .returned (.tuple #[.agg #[.string ⟨#[]⟩, .int .i64 0, .int .i64 0, .string ⟨#[]⟩, .slice none 0 0, .slice none 0 0], .int .i64 20])))

set_option maxHeartbeats 2000000 in
set_option maxRecDepth 100000 in
theorem Read_any (nm s : ByteArray) (hs : s.size < 4294967281) (w : World) (hE : Env w) : Calls Tryz.prog 33 #[.string nm, .string s] w (ReadAns nm s w) := by
  have HE := Lib.hid hE
  have HSZ := Lib.hid hs
  clear hE hs
  have B0 := Lib.hid (alloc_below w (.cells #[.string ⟨#[]⟩, .int .i64 0, .int .i64 0, .string ⟨#[]⟩, .slice none 0 0, .slice none 0 0] 29))
  have T0 := Lib.hid (heap_alloc_new w (.cells #[.string ⟨#[]⟩, .int .i64 0, .int .i64 0, .string ⟨#[]⟩, .slice none 0 0, .slice none 0 0] 29))
  go_enter Tryz.func33, Tryz.ntmps33
  go_upto_region 1 with fail
  generalize w.alloc (.cells #[.string ⟨#[]⟩, .int .i64 0, .int .i64 0, .string ⟨#[]⟩, .slice none 0 0, .slice none 0 0] 29) = W0 at B0 T0 ⊢
  generalize hs : w.heap.size = S at B0 T0 ⊢
  have Hs := Lib.hid hs
  clear hs
  go_wp2_with fail
  refine (aName_any nm W0).mono ?_
  rintro e w1 ⟨rfl, hb⟩
  have T1 := Lib.hid ((hb.block _ (lt_of_block T0.out)).trans T0.out)
  have B1 := Lib.hid (B0.out.trans (hb.mono (by have := lt_of_block T0.out; omega)))
  clear hb B0 T0
  cases hnm : isNameR nm.data.toList
  · obtain ⟨d0, d1, d2, d3, d4, d5, df⟩ := cells6 T1.out
    have HN := Lib.hid hnm
    clear hnm
    go_wp2_with fail
    refine bodyPost_ret (v := .tuple #[.agg #[.string ⟨#[]⟩, .int .i64 0, .int .i64 0, .string ⟨#[]⟩, .slice none 0 0, .slice none 0 0], .int .i64 20]) (results_cell_tmp Tryz.results33 rfl rfl (attVarA (set6_block T1.out))) rfl ?_
    exact ⟨by rw [Hs.out]; exact below_set6 B1.out (Nat.le_refl _), .inr (.inr ⟨HN.out, rfl⟩)⟩
  · have HN := Lib.hid hnm
    clear hnm
    go_wp2_with fail
    refine (readAttribute_any nm s HSZ.out w1 (HE.out.below (by rw [Hs.out]; exact B1.out))).mono ?_
    rintro e w2 ⟨hb, hcase⟩
    have T2 := Lib.hid ((hb.block _ (lt_of_block T1.out)).trans T1.out)
    have B2 := Lib.hid (B1.out.trans (hb.mono (by have := lt_of_block T1.out; omega)))
    have hS1 := lt_of_block T1.out
    rcases hcase with ⟨a, v, ai, ci, ao, ct, rfl, ha, hn1, hn2, _, _, hnm, hr, hval⟩ | ⟨rfl, hno⟩
    · obtain rfl := ha.val
      have HA := Lib.hid ha
      have HF := Lib.hid (And.intro hnm (And.intro hr hval))
      have N1 := Lib.hid (show ∀ x, ai = some x → S + 1 ≤ x.block from fun x e => by have := hn1 x e; omega)
      have N2 := Lib.hid (show ∀ x, ao = some x → S + 1 ≤ x.block from fun x e => by have := hn2 x e; omega)
      have X2 := Lib.hid (heap_alloc_new w2 (.cells #[.string a.name, .int .i64 a.kind, .int .i64 a.num, .string a.text, .slice ai a.ints.length ci, .slice ao a.texts.length ct] 74))
      have X3 := Lib.hid (show _ = _ from (Below.heap_alloc w2 (.cells #[.string a.name, .int .i64 a.kind, .int .i64 a.num, .string a.text, .slice ai a.ints.length ci, .slice ao a.texts.length ct] 74) _ (lt_of_block T2.out)).trans T2.out)
      have B3 := Lib.hid (B2.out.trans ((alloc_below w2 (.cells #[.string a.name, .int .i64 a.kind, .int .i64 a.num, .string a.text, .slice ai a.ints.length ci, .slice ao a.texts.length ct] 74)).mono (by have := lt_of_block T2.out; omega)))
      have A3 := Lib.hid (HA.out.below (alloc_below w2 (.cells #[.string a.name, .int .i64 a.kind, .int .i64 a.num, .string a.text, .slice ai a.ints.length ci, .slice ao a.texts.length ct] 74)))
      clear ha hn1 hn2 hnm hr hval hb HA T1 B1 B2
      go_upto_region 4 with fail
      generalize w2.alloc (.cells #[.string a.name, .int .i64 a.kind, .int .i64 a.num, .string a.text, .slice ai a.ints.length ci, .slice ao a.texts.length ct] 74) = w3 at X2 X3 B3 A3 ⊢
      generalize w2.heap.size = D at X2 ⊢
      clear hS1 T2
      obtain ⟨c0, c1, c2, c3, c4, c5, cf⟩ := cells6 X2.out
      obtain ⟨d0, d1, d2, d3, d4, d5, df⟩ := cells6 X3.out
      go_wp2_with fail
      refine bodyPost_ret (v := .tuple #[.agg #[.string a.name, .int .i64 a.kind, .int .i64 a.num, .string a.text, .slice ai a.ints.length ci, .slice ao a.texts.length ct], .int .i64 0]) (results_cell_tmp Tryz.results33 rfl rfl (attVarA (set6_block X3.out))) rfl ?_
      have hk6 : ∀ k, S + 1 ≤ k → _ := fun k hk => set6_other (w := w3) (b := S) (k := k) (u0 := .string a.name) (u1 := .int .i64 a.kind) (u2 := .int .i64 a.num) (u3 := .string a.text) (u4 := .slice ai a.ints.length ci) (u5 := .slice ao a.texts.length ct) (by omega)
      exact ⟨by rw [Hs.out]; exact below_set6 B3.out (Nat.le_refl _), .inl ⟨HN.out, a, _, ai, ci, ao, ct, rfl, ⟨rfl, A3.out.ints.moved N1.out hk6, A3.out.texts.moved N2.out hk6, A3.out.icap, A3.out.tcap, A3.out.wf⟩, HF.out.1, HF.out.2.1, HF.out.2.2⟩⟩
    · have HNO := Lib.hid hno
      have X3 := Lib.hid (show _ = _ from (Below.heap_alloc w2 (.cells #[.string ⟨#[]⟩, .int .i64 0, .int .i64 0, .string ⟨#[]⟩, .slice none 0 0, .slice none 0 0] 74) _ (lt_of_block T2.out)).trans T2.out)
      have B3 := Lib.hid (B2.out.trans ((alloc_below w2 (.cells #[.string ⟨#[]⟩, .int .i64 0, .int .i64 0, .string ⟨#[]⟩, .slice none 0 0, .slice none 0 0] 74)).mono (by have := lt_of_block T2.out; omega)))
      clear hno hb T1 B1 B2
      go_upto_region 4 with fail
      generalize w2.alloc (.cells #[.string ⟨#[]⟩, .int .i64 0, .int .i64 0, .string ⟨#[]⟩, .slice none 0 0, .slice none 0 0] 74) = w3 at X3 B3 ⊢
      clear hS1 T2
      obtain ⟨d0, d1, d2, d3, d4, d5, df⟩ := cells6 X3.out
      go_wp2_with fail
      refine bodyPost_ret (v := .tuple #[.agg #[.string ⟨#[]⟩, .int .i64 0, .int .i64 0, .string ⟨#[]⟩, .slice none 0 0, .slice none 0 0], .int .i64 70]) (results_cell_tmp Tryz.results33 rfl rfl (attVarA (set6_block X3.out))) rfl ?_
      exact ⟨by rw [Hs.out]; exact below_set6 B3.out (Nat.le_refl _), .inr (.inl ⟨HN.out, rfl, HNO.out⟩)⟩
end Go.Proofs.YtiofnjnaleglgaaGreatDoor

