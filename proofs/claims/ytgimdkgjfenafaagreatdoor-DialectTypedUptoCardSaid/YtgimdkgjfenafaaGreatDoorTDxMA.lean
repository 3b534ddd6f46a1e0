import Derived.Test.YtgimdkgjfenafaaGreatDoorG32
import Derived.Test.YtgimdkgjfenafaaGreatDoorG19
namespace Go.Proofs.YtgimdkgjfenafaaGreatDoor
open Go.RowKit
open Lib (hid)
def numL (l : List ByteArray) : List Rule → Nat → Bnd → Bnd × Bool
 | [], p, F => (F, decide (l.length = p))
 | .anys :: _, p, F => (F, decide (p ≤ l.length))
 | .nums :: _, p, F => (F, decide (p ≤ l.length))
 | .index v :: rs, p, F => numL l rs (p + rankS (vS F v)) F
 | .bind v _ :: rs, p, F => numL l rs (p + 1) (if p < l.length then setAt F (v.toNat : Int) (l[p]?.getD ByteArray.empty) else F)
 | _ :: rs, p, F => numL l rs (p + 1) F
def keptL (G : Bnd) (l : List ByteArray) : List Rule → Nat → Bool
 | [], _ => true
 | .anys :: _, _ => true
 | .nums :: _, p => (l.drop p).all (fun t => ofC t .num)
 | .index v :: rs, p => ((l.drop p).take (rankS (vS G v))).all (fun t => t.data.toList == indexS.data.toList) && keptL G l rs (p + rankS (vS G v))
 | r :: rs, p => r.fits G (l[p]?.getD ByteArray.empty) && keptL G l rs (p + 1)
def okR (B : UInt8 → Bool) : List Rule → Bool
 | [] => true
 | .bad :: _ => false
 | .fixed _ :: rs => okR B rs
 | .bind v _ :: rs => !B v && okR (fun u => u == v || B u) rs
 | .same v :: rs => B v && okR B rs
 | .elem v :: rs => B v && okR B rs
 | .turn v :: rs => B v && okR B rs
 | .index v :: rs => B v && okR B rs
 | .anys :: rs => rs.isEmpty
 | .nums :: rs => rs.isEmpty
theorem okR_mono : ∀ (rs : List Rule) (B C : UInt8 → Bool), (∀ u, B u = C u) → okR B rs = okR C rs := by
 intro rs B C h
 rw [show B = C from funext h]
theorem u8_ne {u v : UInt8} (h : u ≠ v) : (u.toNat : Int) ≠ (v.toNat : Int) := fun e => h (UInt8.toNat_inj.1 (by omega))
theorem go_ok {n : Nat} : ∀ (rs : List Rule) (i : Nat) (F F' : BndC), i + rs.length = n → goC false n i rs F = some F' → okR (fun u => (F (u.toNat : Int)).isSome) rs = true := by
 intro rs
 induction rs with
 | nil => intro i F F' _ _; rfl
 | cons r rs ih =>
  intro i F F' hn h
  rw [goC] at h
  have hn' : i + 1 + rs.length = n := by simp only [List.length_cons] at hn; omega
  have sh : ∀ {v : UInt8}, shapedC F v = true → (F (v.toNat : Int)).isSome = true := by
   intro v hv
   unfold shapedC at hv
   split at hv
   ·rename_i c hc; rw [hc]; rfl
   ·cases hv
  cases r with
  | bad => cases h
  | fixed t => exact ih _ _ _ hn' h
  | bind v c =>
   dsimp only [stepC] at h
   cases hv : (F (v.toNat : Int)).isSome
   ·rw [hv] at h
    have := ih _ _ _ hn' h
    unfold okR
    rw [hv, Bool.not_false, Bool.true_and]
    rw [← this]
    refine okR_mono _ _ _ fun u => ?_
    by_cases hu : u = v
    ·subst hu; rw [setAt_same]; simp
    ·rw [setAt_other _ _ (u8_ne hu)]; simp [hu]
   ·rw [hv] at h; cases h
  | same v =>
   dsimp only [stepC] at h
   cases hv : (F (v.toNat : Int)).isSome
   ·rw [hv] at h; cases h
   ·rw [hv] at h; unfold okR; rw [hv, Bool.true_and]; exact ih _ _ _ hn' h
  | elem v =>
   dsimp only [stepC] at h
   cases hv : shapedC F v
   ·rw [hv] at h; cases h
   ·rw [hv] at h; unfold okR; rw [sh hv, Bool.true_and]; exact ih _ _ _ hn' h
  | turn v =>
   dsimp only [stepC] at h
   cases hv : shapedC F v
   ·rw [hv] at h; cases h
   ·rw [hv] at h; unfold okR; rw [sh hv, Bool.true_and]; exact ih _ _ _ hn' h
  | index v =>
   dsimp only [stepC] at h
   cases hv : shapedC F v
   ·rw [hv] at h; cases h
   ·rw [hv] at h; unfold okR; rw [sh hv, Bool.true_and]; exact ih _ _ _ hn' h
  | anys =>
   dsimp only [stepC] at h
   by_cases hi : i + 1 = n
   ·have : rs = [] := List.eq_nil_of_length_eq_zero (by omega)
    subst this; rfl
   ·rw [if_neg hi] at h; cases h
  | nums =>
   dsimp only [stepC] at h
   by_cases hi : i + 1 = n
   ·have : rs = [] := List.eq_nil_of_length_eq_zero (by omega)
    subst this; rfl
   ·rw [if_neg hi] at h; cases h
theorem num_over (l : List ByteArray) : ∀ (rs : List Rule) (p : Nat) (F : Bnd), l.length < p → (numL l rs p F).2 = false := by
 intro rs
 induction rs with
 | nil => intro p F h; exact decide_eq_false (by omega)
 | cons r rs ih =>
  intro p F h
  cases r with
  | anys => exact decide_eq_false (by omega)
  | nums => exact decide_eq_false (by omega)
  | index v => exact ih _ _ (by omega)
  | bind v c => exact ih _ _ (by omega)
  | _ => exact ih _ _ (by omega)
theorem num_bound (l : List ByteArray) : ∀ (rs : List Rule) (B : UInt8 → Bool) (p : Nat) (F : Bnd) (v : UInt8), okR B rs = true → B v = true → (numL l rs p F).1 (v.toNat : Int) = F (v.toNat : Int) := by
 intro rs
 induction rs with
 | nil => intro B p F v _ _; rfl
 | cons r rs ih =>
  intro B p F v h hv
  cases r with
  | bad => cases h
  | anys => rfl
  | nums => rfl
  | fixed t => exact ih _ _ _ _ h hv
  | bind u c =>
   unfold okR at h
   rw [Bool.and_eq_true] at h
   have hne : v ≠ u := fun e => by subst e; rw [hv] at h; exact absurd h.1 (by decide)
   refine (ih _ (p + 1) _ _ h.2 (by rw [hv, Bool.or_true])).trans ?_
   split
   ·exact setAt_other _ _ (u8_ne hne)
   ·rfl
  | same u => unfold okR at h; rw [Bool.and_eq_true] at h; exact ih _ _ _ _ h.2 hv
  | elem u => unfold okR at h; rw [Bool.and_eq_true] at h; exact ih _ _ _ _ h.2 hv
  | turn u => unfold okR at h; rw [Bool.and_eq_true] at h; exact ih _ _ _ _ h.2 hv
  | index u => unfold okR at h; rw [Bool.and_eq_true] at h; exact ih _ _ _ _ h.2 hv
theorem fit_rep_any : ∀ (l : List ByteArray) (F : Bnd), fitL (List.replicate l.length .anys) l F = some F := by
 intro l
 induction l with
 | nil => intro F; rfl
 | cons t l ih => intro F; exact ih F
theorem fit_rep_num : ∀ (l : List ByteArray) (F : Bnd), fitL (List.replicate l.length .nums) l F = if l.all (fun t => ofC t .num) then some F else none := by
 intro l
 induction l with
 | nil => intro F; rfl
 | cons t l ih =>
  intro F
  show (if ofC t .num then fitL (List.replicate l.length .nums) l F else none) = _
  rw [ih, List.all_cons]
  cases ofC t .num <;> rfl
theorem fit_rep_index (v : UInt8) : ∀ (n : Nat) (X : List Rule) (l : List ByteArray) (F : Bnd), n ≤ l.length → fitL (List.replicate n (.index v) ++ X) l F = if (l.take n).all (fun t => t.data.toList == indexS.data.toList) then fitL X (l.drop n) F else none := by
 intro n
 induction n with
 | zero => intro X l F _; rfl
 | succ n ih =>
  intro X l F h
  cases l with
  | nil => cases h
  | cons t l =>
   show (if t.data.toList == indexS.data.toList then fitL (List.replicate n (.index v) ++ X) l F else none) = _
   rw [ih X l F (by simp only [List.length_cons] at h; omega), List.take_succ_cons, List.all_cons, List.drop_succ_cons]
   cases t.data.toList == indexS.data.toList <;> rfl
theorem fit_one (r : Rule) (X : List Rule) (l : List ByteArray) (p : Nat) (F : Bnd) (h : p < l.length) : fitL (r :: X) (l.drop p) F = if r.fits F (l[p]?.getD ByteArray.empty) then fitL X (l.drop (p + 1)) (r.binds (l[p]?.getD ByteArray.empty) F) else none := by
 rw [List.drop_eq_getElem_cons h, List.getElem?_eq_getElem h]
 rfl
theorem ways (l : List ByteArray) : ∀ (rs : List Rule) (B : UInt8 → Bool) (F : Bnd) (each : List Rule), okR B rs = true → each.length ≤ l.length →
  (spreadL l rs F each).isSome = (numL l rs each.length F).2 ∧
  ∀ E, spreadL l rs F each = some E → ∃ X, E = each ++ X ∧ fitL X (l.drop each.length) F = if keptL (numL l rs each.length F).1 l rs each.length then some (numL l rs each.length F).1 else none := by
 intro rs
 induction rs with
 | nil =>
  intro B F each _ hp
  rw [spreadL, numL]
  by_cases he : each.length = l.length
  ·rw [if_pos he]
   refine ⟨by simp [he], fun E hE => ⟨[], by cases hE; simp, rfl⟩⟩
  ·rw [if_neg he]
   exact ⟨(decide_eq_false fun e => he e.symm).symm, fun E hE => by cases hE⟩
 | cons r rs ih =>
  intro B F each h hp
  have one : ∀ (B' : UInt8 → Bool) (_ : okR B' rs = true) (_ : ∀ n, r.count F n = 1) (G : Bnd) (b : Bool) (_ : numL l (r :: rs) each.length F = (G, b))
    (_ : each.length < l.length → numL l rs (each.length + 1) (r.binds (l[each.length]?.getD ByteArray.empty) F) = (G, b)) (_ : l.length ≤ each.length → b = false)
    (_ : keptL G l (r :: rs) each.length = (r.fits G (l[each.length]?.getD ByteArray.empty) && keptL G l rs (each.length + 1)))
    (_ : each.length < l.length → r.fits G (l[each.length]?.getD ByteArray.empty) = r.fits F (l[each.length]?.getD ByteArray.empty)),
    (spreadL l (r :: rs) F each).isSome = (numL l (r :: rs) each.length F).2 ∧ ∀ E, spreadL l (r :: rs) F each = some E → ∃ X, E = each ++ X ∧ fitL X (l.drop each.length) F = if keptL (numL l (r :: rs) each.length F).1 l (r :: rs) each.length then some (numL l (r :: rs) each.length F).1 else none := by
   intro B' hok hc G b hG hst hno hk hf
   rw [hG, spreadL, hc]
   dsimp only
   by_cases hlt : each.length < l.length
   ·rw [if_pos (by omega)]
    have hi := ih B' (r.binds (l[each.length]?.getD ByteArray.empty) F) (each ++ List.replicate 1 r) hok (by simp; omega)
    rw [show (each ++ List.replicate 1 r).length = each.length + 1 by simp, hst hlt] at hi
    refine ⟨hi.1, fun E hE => ?_⟩
    obtain ⟨X, hX, hfit⟩ := hi.2 E hE
    refine ⟨r :: X, by rw [hX]; simp, ?_⟩
    rw [fit_one r X l _ F hlt, hfit, hk, hf hlt]
    cases r.fits F (l[each.length]?.getD ByteArray.empty) <;> rfl
   ·rw [if_neg (by omega), hno (by omega)]
    exact ⟨rfl, fun E hE => by cases hE⟩
  have over : ∀ (F' : Bnd), l.length ≤ each.length → (numL l rs (each.length + 1) F').2 = false := fun F' hle => num_over l rs _ F' (by omega)
  have eqv : ∀ {B' : UInt8 → Bool} {v : UInt8} (p : Nat), okR B' rs = true → B' v = true → vS (numL l rs p F).1 v = vS F v := fun p h1 h2 => by
   unfold vS; rw [num_bound l rs _ p F _ h1 h2]
  cases r with
  | bad => cases h
  | anys =>
   obtain rfl : rs = [] := List.isEmpty_iff.1 h
   have hl : l.length - each.length = (l.drop each.length).length := by rw [List.length_drop]
   rw [spreadL, numL]
   show (if l.length - each.length ≤ l.length - each.length then spreadL l [] F (each ++ List.replicate (l.length - each.length) .anys) else none).isSome = _ ∧ _
   rw [if_pos (Nat.le_refl _), spreadL, if_pos (by simp; omega)]
   refine ⟨(decide_eq_true hp).symm, fun E hE => ⟨List.replicate (l.length - each.length) .anys, ?_, ?_⟩⟩
   ·replace hE : (if l.length - each.length ≤ l.length - each.length then spreadL l [] F (each ++ List.replicate (l.length - each.length) .anys) else none) = some E := hE
    rw [if_pos (Nat.le_refl _), spreadL, if_pos (by simp; omega)] at hE
    cases hE; rfl
   ·rw [hl, fit_rep_any]; rfl
  | nums =>
   obtain rfl : rs = [] := List.isEmpty_iff.1 h
   have hl : l.length - each.length = (l.drop each.length).length := by rw [List.length_drop]
   rw [spreadL, numL]
   show (if l.length - each.length ≤ l.length - each.length then spreadL l [] F (each ++ List.replicate (l.length - each.length) .nums) else none).isSome = _ ∧ _
   rw [if_pos (Nat.le_refl _), spreadL, if_pos (by simp; omega)]
   refine ⟨(decide_eq_true hp).symm, fun E hE => ⟨List.replicate (l.length - each.length) .nums, ?_, ?_⟩⟩
   ·replace hE : (if l.length - each.length ≤ l.length - each.length then spreadL l [] F (each ++ List.replicate (l.length - each.length) .nums) else none) = some E := hE
    rw [if_pos (Nat.le_refl _), spreadL, if_pos (by simp; omega)] at hE
    cases hE; rfl
   ·rw [hl, fit_rep_num]; rfl
  | index v =>
   unfold okR at h
   rw [Bool.and_eq_true] at h
   have hv := eqv (each.length + rankS (vS F v)) h.2 h.1
   rw [spreadL]
   show (if rankS (vS F v) ≤ l.length - each.length then spreadL l rs F (each ++ List.replicate (rankS (vS F v)) (.index v)) else none).isSome = (numL l rs (each.length + rankS (vS F v)) F).2 ∧ _
   by_cases hle : rankS (vS F v) ≤ l.length - each.length
   ·rw [if_pos hle]
    have hi := ih B F (each ++ List.replicate (rankS (vS F v)) (.index v)) h.2 (by simp; omega)
    rw [show (each ++ List.replicate (rankS (vS F v)) (Rule.index v)).length = each.length + rankS (vS F v) by simp] at hi
    refine ⟨hi.1, fun E hE => ?_⟩
    rw [show (if Rule.count F (l.length - each.length) (.index v) ≤ l.length - each.length then spreadL l rs (Rule.binds (l[each.length]?.getD ByteArray.empty) F (.index v)) (each ++ List.replicate (Rule.count F (l.length - each.length) (.index v)) (.index v)) else none) = spreadL l rs F (each ++ List.replicate (rankS (vS F v)) (.index v)) from if_pos hle] at hE
    obtain ⟨X, hX, hfit⟩ := hi.2 E hE
    refine ⟨List.replicate (rankS (vS F v)) (.index v) ++ X, by rw [hX, List.append_assoc], ?_⟩
    rw [fit_rep_index v _ X _ F (by rw [List.length_drop]; omega), List.drop_drop, hfit]
    show _ = if (((l.drop each.length).take (rankS (vS (numL l rs (each.length + rankS (vS F v)) F).1 v))).all (fun t => t.data.toList == indexS.data.toList) && keptL (numL l rs (each.length + rankS (vS F v)) F).1 l rs (each.length + rankS (vS (numL l rs (each.length + rankS (vS F v)) F).1 v))) then some (numL l rs (each.length + rankS (vS F v)) F).1 else none
    rw [hv]
    cases ((l.drop each.length).take (rankS (vS F v))).all (fun t => t.data.toList == indexS.data.toList) <;> rfl
   ·rw [if_neg hle, num_over l rs _ F (by omega)]
    refine ⟨rfl, fun E hE => ?_⟩
    rw [show (if Rule.count F (l.length - each.length) (.index v) ≤ l.length - each.length then spreadL l rs (Rule.binds (l[each.length]?.getD ByteArray.empty) F (.index v)) (each ++ List.replicate (Rule.count F (l.length - each.length) (.index v)) (.index v)) else none) = none from if_neg hle] at hE
    cases hE
  | bind v c =>
   unfold okR at h
   rw [Bool.and_eq_true] at h
   refine one _ h.2 (fun _ => rfl) (numL l rs (each.length + 1) (if each.length < l.length then setAt F (v.toNat : Int) (l[each.length]?.getD ByteArray.empty) else F)).1 (numL l rs (each.length + 1) (if each.length < l.length then setAt F (v.toNat : Int) (l[each.length]?.getD ByteArray.empty) else F)).2 rfl (fun hlt => ?_) (over _) rfl (fun _ => rfl)
   rw [if_pos hlt]
   rfl
  | fixed t => exact one B h (fun _ => rfl) _ _ rfl (fun _ => rfl) (over _) rfl (fun _ => rfl)
  | same v =>
   unfold okR at h
   rw [Bool.and_eq_true] at h
   exact one B h.2 (fun _ => rfl) _ _ rfl (fun _ => rfl) (over _) rfl (fun _ => by show (_ == (vS _ v).data.toList) = _; rw [eqv _ h.2 h.1]; rfl)
  | elem v =>
   unfold okR at h
   rw [Bool.and_eq_true] at h
   exact one B h.2 (fun _ => rfl) _ _ rfl (fun _ => rfl) (over _) rfl (fun _ => by show (_ == (elS (vS _ v)).data.toList) = _; rw [eqv _ h.2 h.1]; rfl)
  | turn v =>
   unfold okR at h
   rw [Bool.and_eq_true] at h
   exact one B h.2 (fun _ => rfl) _ _ rfl (fun _ => rfl) (over _) rfl (fun _ => by show (_ == (turnS (vS _ v)).data.toList) = _; rw [eqv _ h.2 h.1]; rfl)
theorem num_outs (l : List ByteArray) : ∀ (rs : List Rule) (p : Nat) (F : Bnd), rs.any Rule.inOnly = false → (numL l rs p F).1 = F := by
 intro rs
 induction rs with
 | nil => intro p F _; rfl
 | cons r rs ih =>
  intro p F h
  rw [List.any_cons, Bool.or_eq_false_iff] at h
  cases r with
  | bind v c => cases h.1
  | index v => cases h.1
  | anys => rfl
  | nums => rfl
  | _ => exact ih _ _ h.2
theorem spread_outs (l : List ByteArray) : ∀ (rs : List Rule) (F G : Bnd) (each : List Rule), rs.any Rule.inOnly = false → spreadL l rs F each = spreadL l rs G each := by
 intro rs
 induction rs with
 | nil => intro F G each _; rfl
 | cons r rs ih =>
  intro F G each h
  rw [List.any_cons, Bool.or_eq_false_iff] at h
  rw [spreadL, spreadL]
  cases r with
  | bind v c => cases h.1
  | index v => cases h.1
  | _ => simp only [Rule.count, Rule.binds]; rw [ih F G _ h.2]; rfl
def matchR (d : DefD) (ins outs : List ByteArray) : Int :=
 if ((numL ins (d.ins.map ruleOf) 0 noB).2 && (numL outs (d.outs.map ruleOf) 0 (numL ins (d.ins.map ruleOf) 0 noB).1).2) = true then
  (if (keptL (numL outs (d.outs.map ruleOf) 0 (numL ins (d.ins.map ruleOf) 0 noB).1).1 ins (d.ins.map ruleOf) 0 && keptL (numL outs (d.outs.map ruleOf) 0 (numL ins (d.ins.map ruleOf) 0 noB).1).1 outs (d.outs.map ruleOf) 0) = true then 0 else 62) else 61
def inferR (d : DefD) (ins : List ByteArray) : List ByteArray × Int :=
 if (numL ins (d.ins.map ruleOf) 0 noB).2 = true then
  (if keptL (numL ins (d.ins.map ruleOf) 0 noB).1 ins (d.ins.map ruleOf) 0 = true then
   (if (d.outs.map ruleOf).any Rule.many then ([], 1) else ((d.outs.map ruleOf).map (onlyL (numL ins (d.ins.map ruleOf) 0 noB).1), 0)) else ([], 62)) else ([], 61)
theorem signed_ok {d : DefD} (h : signedL d = true) : okR (fun _ => false) (d.ins.map ruleOf) = true ∧ (∃ B, okR B (d.outs.map ruleOf) = true) ∧ (d.outs.map ruleOf).any Rule.inOnly = false := by
 unfold signedL at h
 rw [Bool.and_eq_true] at h
 obtain ⟨-, h⟩ := h
 cases hg : goC false d.ins.length 0 (d.ins.map ruleOf) (fun _ => none) with
 | none => rw [hg] at h; cases h
 | some F =>
  rw [hg] at h
  dsimp only at h
  rw [Bool.and_eq_true] at h
  obtain ⟨G, hG⟩ := Option.isSome_iff_exists.1 h.1
  exact ⟨go_ok _ _ _ _ (by simp) hg, ⟨_, go_ok _ _ _ _ (by simp) hG⟩, by simpa using h.2⟩
theorem match_ways {d : DefD} (h : signedL d = true) (ins outs : List ByteArray) : matchR d ins outs = matchL d ins outs := by
 obtain ⟨h1, ⟨B, h2⟩, h3⟩ := signed_ok h
 obtain ⟨a1, a2⟩ := ways ins _ _ noB [] h1 (Nat.zero_le _)
 obtain ⟨b1, b2⟩ := ways outs _ B (numL ins (d.ins.map ruleOf) 0 noB).1 [] h2 (Nat.zero_le _)
 have hG := num_outs outs _ 0 (numL ins (d.ins.map ruleOf) 0 noB).1 h3
 rw [spread_outs outs _ _ noB _ h3] at b1 b2
 rw [List.length_nil] at a1 a2 b1 b2
 rw [hG] at b2
 unfold matchR matchL
 rw [hG, ← a1, ← b1]
 cases hs : spreadL ins (d.ins.map ruleOf) noB [] with
 | none => rfl
 | some E =>
  cases ht : spreadL outs (d.outs.map ruleOf) noB [] with
  | none => rfl
  | some E2 =>
   obtain ⟨X, rfl, hX⟩ := a2 E hs
   obtain ⟨Y, rfl, hY⟩ := b2 E2 ht
   rw [List.drop_zero] at hX hY
   dsimp only [List.nil_append, Option.isSome_some, Bool.and_self, if_true]
   rw [hX]
   cases hk : keptL (numL ins (d.ins.map ruleOf) 0 noB).1 ins (d.ins.map ruleOf) 0
   ·rfl
   ·simp only [if_true, Bool.true_and]
    rw [hY]
    cases keptL (numL ins (d.ins.map ruleOf) 0 noB).1 outs (d.outs.map ruleOf) 0 <;> rfl
theorem infer_ways {d : DefD} (h : signedL d = true) (ins : List ByteArray) : inferR d ins = inferL d ins := by
 obtain ⟨h1, -, -⟩ := signed_ok h
 obtain ⟨a1, a2⟩ := ways ins _ _ noB [] h1 (Nat.zero_le _)
 rw [List.length_nil] at a1 a2
 unfold inferR inferL
 rw [← a1]
 cases hs : spreadL ins (d.ins.map ruleOf) noB [] with
 | none => rfl
 | some E =>
  obtain ⟨X, rfl, hX⟩ := a2 E hs
  rw [List.drop_zero] at hX
  dsimp only [List.nil_append, Option.isSome_some, if_true]
  rw [hX]
  cases hk : keptL (numL ins (d.ins.map ruleOf) 0 noB).1 ins (d.ins.map ruleOf) 0 <;> rfl
theorem ofNat_digit {n : Nat} (h : n < 10) : (UInt8.ofNat (48 + n)).toNat = 48 + n := by
 rw [UInt8.toNat_ofNat']
 omega
theorem dec_more {n : Nat} (h : ¬ n < 10) : Lib.decDigits n = Lib.decDigits (n / 10) ++ [UInt8.ofNat (48 + n % 10)] := by rw [Lib.decDigits, dif_neg h]
theorem dec_all (n : Nat) : (Lib.decDigits n).all bDigit = true := by
 induction n using Nat.strongRecOn with
 | _ n ih =>
  by_cases h : n < 10
  ·rw [Lib.decDigits_one h, List.all_cons, List.all_nil, Bool.and_true, digit_iff, ofNat_digit h]
   omega
  ·rw [dec_more h, List.all_append, ih _ (by omega), Bool.true_and, List.all_cons, List.all_nil, Bool.and_true, digit_iff, ofNat_digit (Nat.mod_lt _ (by omega))]
   omega
theorem dec_val (n : Nat) : dvalFrom 0 (Lib.decDigits n) = n := by
 induction n using Nat.strongRecOn with
 | _ n ih =>
  by_cases h : n < 10
  ·rw [Lib.decDigits_one h, dval_cons, ofNat_digit h]
   show 10 * 0 + (48 + n - 48) = n
   omega
  ·rw [dec_more h, dval_snoc, ih _ (by omega), ofNat_digit (Nat.mod_lt _ (by omega))]
   omega
theorem dec_head (n : Nat) : 0 < n → (Lib.decDigits n).head? ≠ some 48 := by
 induction n using Nat.strongRecOn with
 | _ n ih =>
  intro h0
  by_cases h : n < 10
  ·rw [Lib.decDigits_one h, List.head?_cons]
   intro e
   have := congrArg UInt8.toNat (Option.some.inj e)
   rw [ofNat_digit h] at this
   have h48 : (48 : UInt8).toNat = 48 := by decide
   omega
  ·have hi := ih (n / 10) (by omega) (by omega)
   rw [dec_more h]
   cases hd : Lib.decDigits (n / 10) with
   | nil =>
    have := Lib.decDigits_length (n / 10)
    rw [hd] at this
    have := Lib.nDigits_pos (n / 10)
    simp at *
    omega
   | cons c t =>
    rw [hd] at hi
    exact hi
theorem numR_dec {n m : Nat} (h : n ≤ m) (hm : m < 1000000000) : numR (Lib.decDigits n) m = (n, true) := by
 have hl := Lib.decDigits_length n
 have hp := Lib.nDigits_pos n
 have h9 := nDig_le 8 n (by omega)
 rw [numR, if_neg, if_pos (dec_all n), dec_val, decide_eq_true h]
 rintro (e | e | ⟨e1, e2⟩)
 ·rw [e] at hl
  simp at hl
  omega
 ·omega
 ·by_cases h0 : 0 < n
  ·exact dec_head n h0 e2
  ·obtain rfl : n = 0 := by omega
   rw [Lib.decDigits_one (by omega)] at e1
   simp at e1
theorem numB_head {l : List UInt8} (h : numB l = true) : ∃ t, l = 105 :: t := by
 rw [numB_numberR] at h
 cases l with
 | nil => exact absurd h (by decide)
 | cons c t =>
  by_cases hc : c = 105
  ·exact ⟨t, by rw [hc]⟩
  ·rw [number_head (by simpa using hc)] at h
   cases h
theorem exts_text : ∀ (es pre : List Int) (m : Nat) (el : List UInt8), (∀ x ∈ es, 0 ≤ x ∧ x ≤ 1000) → es.length ≤ m → headDigit el = false →
  extsR m (es.flatMap (fun x => Lib.itoa x ++ [120]) ++ el) pre = some (pre ++ es, el)
 | [], pre, m, el, _, _, hel => by
  rw [extsR_eq, List.flatMap_nil, List.nil_append, if_pos hel, List.append_nil]
 | x :: es, pre, m, el, hr, hm, hel => by
  obtain ⟨k, rfl⟩ : ∃ k, m = k + 1 := ⟨m - 1, by simp at hm; omega⟩
  have hx := hr x (by simp)
  obtain ⟨n, rfl⟩ : ∃ n : Nat, x = n := ⟨x.toNat, by omega⟩
  have hi : Lib.itoa (n : Int) = Lib.decDigits n := by rw [Lib.itoa, if_neg (by omega), Int.toNat_natCast]
  have ih := exts_text es (pre ++ [(n : Int)]) k el (fun y hy => hr y (by simp [hy])) (by simp at hm; omega) hel
  have hd := dec_all n
  have hnx : (Lib.decDigits n).all notX = true := all_imp hd digit_notX
  have hne : Lib.decDigits n ≠ [] := fun e => by
   have := Lib.decDigits_length n
   rw [e] at this
   have := Lib.nDigits_pos n
   simp at *
   omega
  have hL : (((n : Int) :: es).flatMap (fun x => Lib.itoa x ++ [120]) ++ el) = Lib.decDigits n ++ (120 :: (es.flatMap (fun x => Lib.itoa x ++ [120]) ++ el)) := by
   rw [List.flatMap_cons, hi]
   simp
  rw [hL]
  obtain ⟨h1, h2⟩ := tw_append (p := notX) (m := 120 :: (es.flatMap (fun x => Lib.itoa x ++ [120]) ++ el)) hnx
  have h120 : notX 120 = false := by decide
  rw [List.takeWhile_cons, h120] at h1
  rw [List.dropWhile_cons, h120] at h2
  simp only [Bool.false_eq_true, if_false, List.append_nil] at h1 h2
  have hhd : headDigit (Lib.decDigits n ++ (120 :: (es.flatMap (fun x => Lib.itoa x ++ [120]) ++ el))) = true := by
   cases hc : Lib.decDigits n with
   | nil => exact absurd hc hne
   | cons c t =>
    rw [hc, List.all_cons, Bool.and_eq_true] at hd
    exact hd.1
  have hn := numR_dec (n := n) (m := 1000) (by omega) (by omega)
  rw [extsR_eq, if_neg (by rw [hhd]; decide), h1, h2, hn, if_neg (by simp)]
  show extsR k (es.flatMap (fun x => Lib.itoa x ++ [120]) ++ el) (pre ++ [(n : Int)]) = _
  rw [ih, List.append_assoc]
  rfl
theorem read_text {k : Int} (hk : k = 2 ∨ k = 3) {es : List Int} (h3 : es.length ≤ 3) (hr : ∀ x ∈ es, 0 ≤ x ∧ x ≤ 1000) {el : List UInt8} (hn : numB el = true) (hp : prodL es ≤ 4096) :
  readR (textHead k ++ es.flatMap (fun x => Lib.itoa x ++ [120]) ++ el ++ [62]) = some (k, 0, es, el) := by
 obtain ⟨t, ht⟩ := numB_head hn
 have hel : headDigit el = false := by rw [ht]; show bDigit 105 = false; decide
 have hext := exts_text es [] 3 el hr h3 hel
 have hn' : (numberR el).2.2 = true := by rw [← numB_numberR]; exact hn
 have h4 : (textHead k).length = 4 := by unfold textHead; split <;> rfl
 have hell : 1 ≤ el.length := by rw [ht]; simp
 obtain ⟨M, hM⟩ : ∃ M, M = es.flatMap (fun x => Lib.itoa x ++ [120]) ++ el := ⟨_, rfl⟩
 rw [← hM] at hext
 have hMl : 1 ≤ M.length := by rw [hM, List.length_append]; omega
 rw [show textHead k ++ es.flatMap (fun x => Lib.itoa x ++ [120]) ++ el ++ [62] = textHead k ++ (M ++ [62]) by rw [hM]; simp only [List.append_assoc]]
 have htk : (textHead k ++ (M ++ [62])).take 4 = textHead k := by rw [← h4, List.take_left]
 have hdr : (textHead k ++ (M ++ [62])).drop 4 = M ++ [62] := by rw [← h4, List.drop_left]
 have hhd : (textHead k ++ (M ++ [62])).head? = some 109 ∨ (textHead k ++ (M ++ [62])).head? = some 97 := by rcases hk with rfl | rfl <;> simp [textHead]
 have hnr : numberR (textHead k ++ (M ++ [62])) = (0, false, false) := number_head (by rcases hhd with h | h <;> rw [h] <;> decide)
 have hgl : (textHead k ++ (M ++ [62])).getLast? = some 62 := by rw [← List.append_assoc, List.getLast?_concat]
 have hlen : 5 ≤ (textHead k ++ (M ++ [62])).length := by rw [List.length_append, List.length_append, h4]; simp; omega
 rw [readR, hnr, if_neg (by decide), if_neg (by rintro ⟨_, h⟩; rcases hhd with h' | h' <;> rw [h'] at h <;> exact absurd h (by decide)), if_neg, hdr, List.dropLast_concat, hext, List.nil_append]
 ·simp only
  rw [if_pos ⟨hn', hp⟩, htk]
  rcases hk with rfl | rfl
  ·rw [if_neg (by decide)]
  ·rw [if_pos (by decide)]
 ·rintro (h | ⟨h1, h2⟩ | h)
  ·omega
  ·rw [htk] at h1 h2
   rcases hk with rfl | rfl
   ·exact h1 rfl
   ·exact h2 rfl
  ·exact h hgl
theorem makeL_text {k : Int} {zs : List Int} {el : List UInt8} (hn : numB el = true) (hp : prodL zs ≤ 4096) : makeL k zs el = (0, textHead k ++ zs.flatMap (fun x => Lib.itoa x ++ [120]) ++ el ++ [62]) := by
 rw [makeL, if_neg (by rw [hn]; simp), if_neg (by omega)]
def TyS (t : ByteArray) : Prop := isT t = true ∧ t.size ≤ 9223372036854775807
theorem elS_type {t : ByteArray} (hs : TyS t) (hk : kindS t = 2 ∨ kindS t = 3) : TyS (elS t) := by
 have h := hs.1
 rcases agree_ty' t with ⟨hn, _⟩ | ⟨k, b, r, e0, e1, e2, el, hr, hn, hT⟩
 ·unfold isT at h; rw [hn] at h; cases h
 ·have hk' : k = 2 ∨ k = 3 := by unfold kindS at hk; rw [hn] at hk; exact hk
  have hnum := ((desc_wf hT.is).2.2.2.2.2.2.1 hk').2.2
  have e : elS t = el := by unfold elS; rw [hn]
  rw [e]
  refine ⟨?_, by have := numB_size' hnum; omega⟩
  unfold isT
  rw [readR, if_pos (by rw [← numB_numberR]; exact hnum)]
  rfl
theorem turnS_type {t : ByteArray} (hs : TyS t) (hk : kindS t = 2 ∨ kindS t = 3) : TyS (turnS t) := by
 have h := hs.1
 rcases agree_ty' t with ⟨hn, _⟩ | ⟨k, b, r, e0, e1, e2, el, hr, hn, hT⟩
 ·unfold isT at h; rw [hn] at h; cases h
 ·have hk' : k = 2 ∨ k = 3 := by unfold kindS at hk; rw [hn] at hk; exact hk
  obtain ⟨-, -, -, w0, w1, w2, w3, -⟩ := desc_wf hT.is
  obtain ⟨-, hp, hnum⟩ := w3 hk'
  have hpl : prodL ([e0, e1, e2].take r) ≤ 4096 := by rw [prodL_take hr]; exact hp
  have hr3 : ∀ x ∈ [e0, e1, e2].take r, 0 ≤ x ∧ x ≤ 1000 := fun x hx => by
   have hm := List.mem_of_mem_take hx
   simp only [List.mem_cons, List.not_mem_nil, or_false] at hm
   rcases hm with rfl | rfl | rfl
   ·exact w0
   ·exact w1
   ·exact w2
  have hl3 : ([e0, e1, e2].take r).length ≤ 3 := by rw [List.length_take]; simp; omega
  have e : turnS t = ⟨(textHead (5 - k) ++ ([e0, e1, e2].take r).flatMap (fun x => Lib.itoa x ++ [120]) ++ el.data.toList ++ [62]).toArray⟩ := by
   unfold turnS
   rw [hn]
   show (if k = 2 ∨ k = 3 then (⟨(makeL (5 - k) ([e0, e1, e2].take r) el.data.toList).2.toArray⟩ : ByteArray) else ⟨#[]⟩) = _
   rw [if_pos hk', makeL_text hnum hpl]
  rw [e]
  refine ⟨?_, ?_⟩
  ·show (readR (textHead (5 - k) ++ ([e0, e1, e2].take r).flatMap (fun x => Lib.itoa x ++ [120]) ++ el.data.toList ++ [62])).isSome = true
   rw [read_text (by omega) hl3 hr3 hnum hpl]
   rfl
  ·have h1 : ∀ (es : List Int), (∀ x ∈ es, 0 ≤ x ∧ x ≤ 1000) → (es.flatMap (fun x => Lib.itoa x ++ [120])).length ≤ es.length * 5 := by
    intro es
    induction es with
    | nil => intro _; exact Nat.le_refl _
    | cons x es ih =>
     intro hx
     have h2 := ih fun y hy => hx y (List.mem_cons.2 (.inr hy))
     have h3 := itoa_len (hx x (List.mem_cons.2 (.inl rfl)))
     rw [List.flatMap_cons, List.length_append, List.length_append]
     simp only [List.length_cons, List.length_nil]
     omega
   have h2 := h1 _ hr3
   have h3 := numB_len hnum
   have h4 : (textHead (5 - k)).length ≤ 4 := by unfold textHead; split <;> exact Nat.le_refl _
   show ((textHead (5 - k) ++ ([e0, e1, e2].take r).flatMap (fun x => Lib.itoa x ++ [120]) ++ el.data.toList ++ [62])).length ≤ _
   rw [List.length_append, List.length_append, List.length_append, List.length_singleton]
   omega
def Stands (FC : BndC) (F : Bnd) : Prop := ∀ (v : UInt8) (c : Cls), FC (v.toNat : Int) = some c → ∃ t, F (v.toNat : Int) = some t ∧ TyS t ∧ ofC t c = true
theorem stands_kept (l : List ByteArray) (hl : ∀ t ∈ l, TyS t) (n : Nat) : ∀ (rs : List Rule) (i p : Nat) (FC FC' : BndC) (F0 F : Bnd), i + rs.length = n → goC false n i rs FC = some FC' → numL l rs p F0 = (F, true) → keptL F l rs p = true → Stands FC F → Stands FC' F := by
 intro rs
 induction rs with
 | nil =>
  intro i p FC FC' F0 F _ hg _ _ hs
  rw [goC] at hg
  cases hg
  exact hs
 | cons r rs ih =>
  intro i p FC FC' F0 F hn hg hq hk hs
  have hn' : i + 1 + rs.length = n := by simp only [List.length_cons] at hn; omega
  rw [goC] at hg
  have one : ∀ (F1 : Bnd), numL l rs (p + 1) F1 = (F, true) → (r.fits F (l[p]?.getD ByteArray.empty) && keptL F l rs (p + 1)) = true → goC false n (i + 1) rs FC = some FC' → Stands FC' F := fun F1 h1 h2 h3 => by
   rw [Bool.and_eq_true] at h2
   exact ih _ _ _ _ _ _ hn' h3 h1 h2.2 hs
  cases r with
  | bad => cases hg
  | fixed t => exact one _ hq hk hg
  | anys =>
   dsimp only [stepC] at hg
   by_cases hi : i + 1 = n
   ·obtain rfl : rs = [] := List.eq_nil_of_length_eq_zero (by omega)
    rw [if_pos hi] at hg
    cases (show some FC = some FC' from hg)
    exact hs
   ·rw [if_neg hi] at hg; cases hg
  | nums =>
   dsimp only [stepC] at hg
   by_cases hi : i + 1 = n
   ·obtain rfl : rs = [] := List.eq_nil_of_length_eq_zero (by omega)
    rw [if_pos hi] at hg
    cases (show some FC = some FC' from hg)
    exact hs
   ·rw [if_neg hi] at hg; cases hg
  | same v =>
   dsimp only [stepC] at hg
   cases hv : (FC (v.toNat : Int)).isSome
   ·rw [hv] at hg; cases hg
   ·rw [hv] at hg; exact one _ hq hk hg
  | elem v =>
   dsimp only [stepC] at hg
   cases hv : shapedC FC v
   ·rw [hv] at hg; cases hg
   ·rw [hv] at hg; exact one _ hq hk hg
  | turn v =>
   dsimp only [stepC] at hg
   cases hv : shapedC FC v
   ·rw [hv] at hg; cases hg
   ·rw [hv] at hg; exact one _ hq hk hg
  | index v =>
   dsimp only [stepC] at hg
   cases hv : shapedC FC v
   ·rw [hv] at hg; cases hg
   ·rw [hv] at hg
    rw [keptL, Bool.and_eq_true] at hk
    have hb : rankS (vS F v) = rankS (vS F0 v) := by
     have hok := go_ok rs (i + 1) FC FC' hn' hg
     have hsome : (FC (v.toNat : Int)).isSome = true := by
      unfold shapedC at hv
      split at hv
      ·rename_i c hc; rw [hc]; rfl
      ·cases hv
     have := num_bound l rs _ (p + rankS (vS F0 v)) F0 v hok hsome
     rw [show (numL l rs (p + rankS (vS F0 v)) F0).1 = F from congrArg Prod.fst hq] at this
     unfold vS
     rw [this]
    rw [hb] at hk
    exact ih _ _ _ _ _ _ hn' hg hq hk.2 hs
  | bind v c =>
   dsimp only [stepC] at hg
   cases hv : (FC (v.toNat : Int)).isSome
   rotate_left
   ·rw [hv] at hg; cases hg
   rw [hv] at hg
   replace hg : goC false n (i + 1) rs (setAt FC (v.toNat : Int) c) = some FC' := hg
   replace hk : ((Rule.bind v c).fits F (l[p]?.getD ByteArray.empty) && keptL F l rs (p + 1)) = true := hk
   rw [Bool.and_eq_true] at hk
   have hp : p < l.length := by
    rcases Nat.lt_or_ge p l.length with h | h
    ·exact h
    ·have h2 := num_over l rs (p + 1) (if p < l.length then setAt F0 (v.toNat : Int) (l[p]?.getD ByteArray.empty) else F0) (by omega)
     have h3 : (numL l rs (p + 1) (if p < l.length then setAt F0 (v.toNat : Int) (l[p]?.getD ByteArray.empty) else F0)).2 = true := congrArg Prod.snd hq
     rw [h2] at h3
     cases h3
   replace hq : numL l rs (p + 1) (if p < l.length then setAt F0 (v.toNat : Int) (l[p]?.getD ByteArray.empty) else F0) = (F, true) := hq
   rw [if_pos hp] at hq
   have hok := go_ok rs (i + 1) _ FC' hn' hg
   have hF : F (v.toNat : Int) = some (l[p]?.getD ByteArray.empty) := by
    have := num_bound l rs _ (p + 1) (setAt F0 (v.toNat : Int) (l[p]?.getD ByteArray.empty)) v hok (by rw [setAt_same]; rfl)
    rw [show (numL l rs (p + 1) (setAt F0 (v.toNat : Int) (l[p]?.getD ByteArray.empty))).1 = F from congrArg Prod.fst hq, setAt_same] at this
    exact this
   refine ih _ _ _ _ _ _ hn' hg hq hk.2 fun u d hu => ?_
   by_cases huv : u = v
   ·subst huv
    rw [setAt_same] at hu
    cases hu
    refine ⟨_, hF, ?_, hk.1⟩
    rw [List.getElem?_eq_getElem hp]
    exact hl _ (List.getElem_mem hp)
   ·rw [setAt_other _ _ (u8_ne huv)] at hu
    exact hs u d hu
def Rule.plain (r : Rule) : Bool := !r.inOnly && !r.many
theorem out_type {FC : BndC} {F : Bnd} (hs : Stands FC F) (n : Nat) : ∀ (rs : List Rule) (i : Nat) (FC' : BndC), goC false n i rs FC = some FC' → (∀ r ∈ rs, r.plain = true) → (∀ t, Rule.fixed t ∈ rs → TyS t) → ∀ r ∈ rs, TyS (onlyL F r) ∧ r.fits F (onlyL F r) = true := by
 have shaped : ∀ v, shapedC FC v = true → TyS (vS F v) ∧ (kindS (vS F v) = 2 ∨ kindS (vS F v) = 3) := fun v hv => by
  unfold shapedC at hv
  split at hv
  ·rename_i c hc
   obtain ⟨t, ht, h1, h2⟩ := hs v c hc
   unfold vS
   rw [ht]
   refine ⟨h1, ?_⟩
   cases c with
   | mem => exact .inl (by simpa [ofC] using h2)
   | arr => exact .inr (by simpa [ofC] using h2)
   | _ => cases hv
  ·cases hv
 intro rs
 induction rs with
 | nil => intro i FC' _ _ _ r hr; cases hr
 | cons r rs ih =>
  intro i FC' hg hp hf
  rw [goC] at hg
  have hpr := hp r (List.mem_cons.2 (.inl rfl))
  have more : goC false n (i + 1) rs FC = some FC' → (TyS (onlyL F r) ∧ r.fits F (onlyL F r) = true) → ∀ x ∈ r :: rs, TyS (onlyL F x) ∧ x.fits F (onlyL F x) = true := fun h1 h2 x hx => by
   rcases List.mem_cons.1 hx with rfl | hx
   ·exact h2
   ·exact ih _ _ h1 (fun y hy => hp y (List.mem_cons.2 (.inr hy))) (fun t ht => hf t (List.mem_cons.2 (.inr ht))) x hx
  cases r with
  | bad => cases hg
  | bind v c => cases hpr
  | index v => cases hpr
  | anys => cases hpr
  | nums => cases hpr
  | fixed t => exact more hg ⟨hf t (List.mem_cons.2 (.inl rfl)), beq_self_eq_true _⟩
  | same v =>
   dsimp only [stepC] at hg
   cases hv : FC (v.toNat : Int) with
   | none => rw [hv] at hg; cases hg
   | some c =>
    rw [hv] at hg
    obtain ⟨t, ht, h1, -⟩ := hs v c hv
    exact more hg ⟨by show TyS (vS F v); unfold vS; rw [ht]; exact h1, beq_self_eq_true _⟩
  | elem v =>
   dsimp only [stepC] at hg
   cases hv : shapedC FC v
   ·rw [hv] at hg; cases hg
   ·rw [hv] at hg
    exact more hg ⟨elS_type (shaped v hv).1 (shaped v hv).2, beq_self_eq_true _⟩
  | turn v =>
   dsimp only [stepC] at hg
   cases hv : shapedC FC v
   ·rw [hv] at hg; cases hg
   ·rw [hv] at hg
    exact more hg ⟨turnS_type (shaped v hv).1 (shaped v hv).2, beq_self_eq_true _⟩
theorem num_plain (l : List ByteArray) : ∀ (rs : List Rule) (p : Nat) (F : Bnd), (∀ r ∈ rs, r.plain = true) → numL l rs p F = (F, decide (l.length = p + rs.length)) := by
 intro rs
 induction rs with
 | nil => intro p F _; rfl
 | cons r rs ih =>
  intro p F h
  have h1 := h r (List.mem_cons.2 (.inl rfl))
  have h2 := ih (p + 1) F fun x hx => h x (List.mem_cons.2 (.inr hx))
  rw [List.length_cons, show p + (rs.length + 1) = p + 1 + rs.length by omega]
  cases r with
  | bind v c => cases h1
  | index v => cases h1
  | anys => cases h1
  | nums => cases h1
  | _ => exact h2
theorem kept_plain (F : Bnd) (l : List ByteArray) : ∀ (rs : List Rule) (p : Nat), (∀ r ∈ rs, r.plain = true) → (∀ r ∈ rs, r.fits F (onlyL F r) = true) → (∀ j (r : Rule), rs[j]? = some r → l[p + j]? = some (onlyL F r)) → keptL F l rs p = true := by
 intro rs
 induction rs with
 | nil => intro p _ _ _; rfl
 | cons r rs ih =>
  intro p h hf hl
  have h1 := h r (List.mem_cons.2 (.inl rfl))
  have h2 := ih (p + 1) (fun x hx => h x (List.mem_cons.2 (.inr hx))) (fun x hx => hf x (List.mem_cons.2 (.inr hx))) (fun j x hj => by
   have := hl (j + 1) x (by rw [List.getElem?_cons_succ]; exact hj)
   rw [← this]
   congr 1
   omega)
  have h3 : r.fits F (l[p]?.getD ByteArray.empty) = true := by
   have := hl 0 r rfl
   rw [Nat.add_zero] at this
   rw [this]
   exact hf r (List.mem_cons.2 (.inl rfl))
  have h4 : (r.fits F (l[p]?.getD ByteArray.empty) && keptL F l rs (p + 1)) = true := by rw [h3, h2]; rfl
  cases r with
  | bind v c => cases h1
  | index v => cases h1
  | anys => cases h1
  | nums => cases h1
  | _ => exact h4
theorem fixed_type {ss : List ByteArray} (hz : ∀ s ∈ ss, s.size ≤ 9223372036854775807) {t : ByteArray} (h : Rule.fixed t ∈ ss.map ruleOf) : TyS t := by
 obtain ⟨s, hs, e⟩ := List.mem_map.1 h
 unfold ruleOf at e
 split at e
 ·rename_i hr
  cases e
  exact ⟨hr, hz _ hs⟩
 ·split at e
  ·cases e
  ·split at e
   ·cases e
   ·split at e
    all_goals first | cases e | (split at e <;> first | cases e | (split at e <;> cases e))
theorem infer_matches {d : DefD} (h : signedL d = true) {ins out : List ByteArray} (hz : ∀ s ∈ d.outs, s.size ≤ 9223372036854775807) (hi : ∀ t ∈ ins, TyS t) (ho : inferL d ins = (out, 0)) : matchL d ins out = 0 ∧ ∀ t ∈ out, TyS t := by
 rw [← infer_ways h] at ho
 rw [← match_ways h]
 unfold signedL at h
 rw [Bool.and_eq_true] at h
 obtain ⟨-, h⟩ := h
 cases hg : goC false d.ins.length 0 (d.ins.map ruleOf) (fun _ => none) with
 | none => rw [hg] at h; cases h
 | some FC =>
  rw [hg] at h
  dsimp only at h
  rw [Bool.and_eq_true] at h
  obtain ⟨GC, hG⟩ := Option.isSome_iff_exists.1 h.1
  unfold inferR at ho
  split at ho
  rotate_left
  ·cases ho
  rename_i h1
  split at ho
  rotate_left
  ·cases ho
  rename_i h2
  split at ho
  ·cases ho
  rename_i h3
  injection ho with ho _
  obtain ⟨F, hF⟩ : ∃ F, F = (numL ins (d.ins.map ruleOf) 0 noB).1 := ⟨_, rfl⟩
  have hq : numL ins (d.ins.map ruleOf) 0 noB = (F, true) := Prod.ext hF.symm h1
  rw [← hF] at ho h2
  have hst := stands_kept ins hi d.ins.length (d.ins.map ruleOf) 0 0 _ FC noB F (by simp) hg hq h2 (fun v c hc => by cases hc)
  have hpl : ∀ r ∈ d.outs.map ruleOf, r.plain = true := fun r hr => by
   unfold Rule.plain
   have a1 : r.inOnly = false := by
    have h4 := h.2
    rw [Bool.not_eq_true', List.any_eq_false] at h4
    simpa using h4 r hr
   have a2 : r.many = false := by
    rw [Bool.not_eq_true, List.any_eq_false] at h3
    simpa using h3 r hr
   rw [a1, a2]
   rfl
  have hty := out_type hst d.outs.length (d.outs.map ruleOf) 0 GC hG hpl (fun t ht => fixed_type hz ht)
  have hnum := num_plain out (d.outs.map ruleOf) 0 F hpl
  have hkp := kept_plain F out (d.outs.map ruleOf) 0 hpl (fun r hr => (hty r hr).2) (fun j r hj => by rw [← ho, Nat.zero_add, List.getElem?_map, hj]; rfl)
  refine ⟨?_, fun t ht => ?_⟩
  ·unfold matchR
   rw [← hF, h1, hnum, Bool.true_and]
   dsimp only
   rw [if_pos (decide_eq_true (by rw [← ho]; simp)), h2, hkp]
   rfl
  ·rw [← ho] at ht
   obtain ⟨r, hr, rfl⟩ := List.mem_map.1 ht
   exact (hty r hr).1
end Go.Proofs.YtgimdkgjfenafaaGreatDoor
