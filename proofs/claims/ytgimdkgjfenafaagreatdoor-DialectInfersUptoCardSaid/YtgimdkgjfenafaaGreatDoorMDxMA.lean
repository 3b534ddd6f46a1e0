import Derived.Test.YtgimdkgjfenafaaGreatDoorG32
import Derived.Deep.RegionHeld3
import Derived.Test.YtgimdkgjfenafaaGreatDoorG36
namespace Go.Proofs.YtgimdkgjfenafaaGreatDoor
open Go.RowKit
def numL (l : List ByteArray) : List Rule → Nat → Bnd → Bnd × Bool
 | [], p, F => (F, decide (l.length = p))
 | .anys :: _, p, F => (F, decide (p ≤ l.length))
 | .nums :: _, p, F => (F, decide (p ≤ l.length))
 | .index v :: rs, p, F => numL l rs (p + rankS (vS F v)) F
 | .bind v _ :: rs, p, F => numL l rs (p + 1) (if p < l.length then setAt F (v.toNat : Int) (l[p]?.getD ByteArray.empty) else F)
 | _ :: rs, p, F => numL l rs (p + 1) F
def keptL (G : Bnd) (l : List ByteArray) : List Rule → Nat → Bool
 | [], _ => true
 | .anys :: _, _ => true
 | .nums :: _, p => (l.drop p).all (fun t => ofC t .num)
 | .index v :: rs, p => ((l.drop p).take (rankS (vS G v))).all (fun t => t.data.toList == indexS.data.toList) && keptL G l rs (p + rankS (vS G v))
 | r :: rs, p => r.fits G (l[p]?.getD ByteArray.empty) && keptL G l rs (p + 1)
def okR (B : UInt8 → Bool) : List Rule → Bool
 | [] => true
 | .bad :: _ => false
 | .fixed _ :: rs => okR B rs
 | .bind v _ :: rs => !B v && okR (fun u => u == v || B u) rs
 | .same v :: rs => B v && okR B rs
 | .elem v :: rs => B v && okR B rs
 | .turn v :: rs => B v && okR B rs
 | .index v :: rs => B v && okR B rs
 | .anys :: rs => rs.isEmpty
 | .nums :: rs => rs.isEmpty
theorem okR_mono : ∀ (rs : List Rule) (B C : UInt8 → Bool), (∀ u, B u = C u) → okR B rs = okR C rs := by
 intro rs B C h
 rw [show B = C from funext h]
theorem u8_ne {u v : UInt8} (h : u ≠ v) : (u.toNat : Int) ≠ (v.toNat : Int) := fun e => h (UInt8.toNat_inj.1 (by omega))
theorem go_ok {n : Nat} : ∀ (rs : List Rule) (i : Nat) (F F' : BndC), i + rs.length = n → goC false n i rs F = some F' → okR (fun u => (F (u.toNat : Int)).isSome) rs = true := by
 intro rs
 induction rs with
 | nil => intro i F F' _ _; rfl
 | cons r rs ih =>
  intro i F F' hn h
  rw [goC] at h
  have hn' : i + 1 + rs.length = n := by simp only [List.length_cons] at hn; omega
  have sh : ∀ {v : UInt8}, shapedC F v = true → (F (v.toNat : Int)).isSome = true := by
   intro v hv
   unfold shapedC at hv
   split at hv
   ·rename_i c hc; rw [hc]; rfl
   ·cases hv
  cases r with
  | bad => cases h
  | fixed t => exact ih _ _ _ hn' h
  | bind v c =>
   dsimp only [stepC] at h
   cases hv : (F (v.toNat : Int)).isSome
   ·rw [hv] at h
    have := ih _ _ _ hn' h
    unfold okR
    rw [hv, Bool.not_false, Bool.true_and]
    rw [← this]
    refine okR_mono _ _ _ fun u => ?_
    by_cases hu : u = v
    ·subst hu; rw [setAt_same]; simp
    ·rw [setAt_other _ _ (u8_ne hu)]; simp [hu]
   ·rw [hv] at h; cases h
  | same v =>
   dsimp only [stepC] at h
   cases hv : (F (v.toNat : Int)).isSome
   ·rw [hv] at h; cases h
   ·rw [hv] at h; unfold okR; rw [hv, Bool.true_and]; exact ih _ _ _ hn' h
  | elem v =>
   dsimp only [stepC] at h
   cases hv : shapedC F v
   ·rw [hv] at h; cases h
   ·rw [hv] at h; unfold okR; rw [sh hv, Bool.true_and]; exact ih _ _ _ hn' h
  | turn v =>
   dsimp only [stepC] at h
   cases hv : shapedC F v
   ·rw [hv] at h; cases h
   ·rw [hv] at h; unfold okR; rw [sh hv, Bool.true_and]; exact ih _ _ _ hn' h
  | index v =>
   dsimp only [stepC] at h
   cases hv : shapedC F v
   ·rw [hv] at h; cases h
   ·rw [hv] at h; unfold okR; rw [sh hv, Bool.true_and]; exact ih _ _ _ hn' h
  | anys =>
   dsimp only [stepC] at h
   by_cases hi : i + 1 = n
   ·have : rs = [] := List.eq_nil_of_length_eq_zero (by omega)
    subst this; rfl
   ·rw [if_neg hi] at h; cases h
  | nums =>
   dsimp only [stepC] at h
   by_cases hi : i + 1 = n
   ·have : rs = [] := List.eq_nil_of_length_eq_zero (by omega)
    subst this; rfl
   ·rw [if_neg hi] at h; cases h
theorem num_over (l : List ByteArray) : ∀ (rs : List Rule) (p : Nat) (F : Bnd), l.length < p → (numL l rs p F).2 = false := by
 intro rs
 induction rs with
 | nil => intro p F h; exact decide_eq_false (by omega)
 | cons r rs ih =>
  intro p F h
  cases r with
  | anys => exact decide_eq_false (by omega)
  | nums => exact decide_eq_false (by omega)
  | index v => exact ih _ _ (by omega)
  | bind v c => exact ih _ _ (by omega)
  | _ => exact ih _ _ (by omega)
theorem num_bound (l : List ByteArray) : ∀ (rs : List Rule) (B : UInt8 → Bool) (p : Nat) (F : Bnd) (v : UInt8), okR B rs = true → B v = true → (numL l rs p F).1 (v.toNat : Int) = F (v.toNat : Int) := by
 intro rs
 induction rs with
 | nil => intro B p F v _ _; rfl
 | cons r rs ih =>
  intro B p F v h hv
  cases r with
  | bad => cases h
  | anys => rfl
  | nums => rfl
  | fixed t => exact ih _ _ _ _ h hv
  | bind u c =>
   unfold okR at h
   rw [Bool.and_eq_true] at h
   have hne : v ≠ u := fun e => by subst e; rw [hv] at h; exact absurd h.1 (by decide)
   refine (ih _ (p + 1) _ _ h.2 (by rw [hv, Bool.or_true])).trans ?_
   split
   ·exact setAt_other _ _ (u8_ne hne)
   ·rfl
  | same u => unfold okR at h; rw [Bool.and_eq_true] at h; exact ih _ _ _ _ h.2 hv
  | elem u => unfold okR at h; rw [Bool.and_eq_true] at h; exact ih _ _ _ _ h.2 hv
  | turn u => unfold okR at h; rw [Bool.and_eq_true] at h; exact ih _ _ _ _ h.2 hv
  | index u => unfold okR at h; rw [Bool.and_eq_true] at h; exact ih _ _ _ _ h.2 hv
theorem fit_rep_any : ∀ (l : List ByteArray) (F : Bnd), fitL (List.replicate l.length .anys) l F = some F := by
 intro l
 induction l with
 | nil => intro F; rfl
 | cons t l ih => intro F; exact ih F
theorem fit_rep_num : ∀ (l : List ByteArray) (F : Bnd), fitL (List.replicate l.length .nums) l F = if l.all (fun t => ofC t .num) then some F else none := by
 intro l
 induction l with
 | nil => intro F; rfl
 | cons t l ih =>
  intro F
  show (if ofC t .num then fitL (List.replicate l.length .nums) l F else none) = _
  rw [ih, List.all_cons]
  cases ofC t .num <;> rfl
theorem fit_rep_index (v : UInt8) : ∀ (n : Nat) (X : List Rule) (l : List ByteArray) (F : Bnd), n ≤ l.length → fitL (List.replicate n (.index v) ++ X) l F = if (l.take n).all (fun t => t.data.toList == indexS.data.toList) then fitL X (l.drop n) F else none := by
 intro n
 induction n with
 | zero => intro X l F _; rfl
 | succ n ih =>
  intro X l F h
  cases l with
  | nil => cases h
  | cons t l =>
   show (if t.data.toList == indexS.data.toList then fitL (List.replicate n (.index v) ++ X) l F else none) = _
   rw [ih X l F (by simp only [List.length_cons] at h; omega), List.take_succ_cons, List.all_cons, List.drop_succ_cons]
   cases t.data.toList == indexS.data.toList <;> rfl
theorem fit_one (r : Rule) (X : List Rule) (l : List ByteArray) (p : Nat) (F : Bnd) (h : p < l.length) : fitL (r :: X) (l.drop p) F = if r.fits F (l[p]?.getD ByteArray.empty) then fitL X (l.drop (p + 1)) (r.binds (l[p]?.getD ByteArray.empty) F) else none := by
 rw [List.drop_eq_getElem_cons h, List.getElem?_eq_getElem h]
 rfl
theorem ways (l : List ByteArray) : ∀ (rs : List Rule) (B : UInt8 → Bool) (F : Bnd) (each : List Rule), okR B rs = true → each.length ≤ l.length →
  (spreadL l rs F each).isSome = (numL l rs each.length F).2 ∧
  ∀ E, spreadL l rs F each = some E → ∃ X, E = each ++ X ∧ fitL X (l.drop each.length) F = if keptL (numL l rs each.length F).1 l rs each.length then some (numL l rs each.length F).1 else none := by
 intro rs
 induction rs with
 | nil =>
  intro B F each _ hp
  rw [spreadL, numL]
  by_cases he : each.length = l.length
  ·rw [if_pos he]
   refine ⟨by simp [he], fun E hE => ⟨[], by cases hE; simp, rfl⟩⟩
  ·rw [if_neg he]
   exact ⟨(decide_eq_false fun e => he e.symm).symm, fun E hE => by cases hE⟩
 | cons r rs ih =>
  intro B F each h hp
  have one : ∀ (B' : UInt8 → Bool) (_ : okR B' rs = true) (_ : ∀ n, r.count F n = 1) (G : Bnd) (b : Bool) (_ : numL l (r :: rs) each.length F = (G, b))
    (_ : each.length < l.length → numL l rs (each.length + 1) (r.binds (l[each.length]?.getD ByteArray.empty) F) = (G, b)) (_ : l.length ≤ each.length → b = false)
    (_ : keptL G l (r :: rs) each.length = (r.fits G (l[each.length]?.getD ByteArray.empty) && keptL G l rs (each.length + 1)))
    (_ : each.length < l.length → r.fits G (l[each.length]?.getD ByteArray.empty) = r.fits F (l[each.length]?.getD ByteArray.empty)),
    (spreadL l (r :: rs) F each).isSome = (numL l (r :: rs) each.length F).2 ∧ ∀ E, spreadL l (r :: rs) F each = some E → ∃ X, E = each ++ X ∧ fitL X (l.drop each.length) F = if keptL (numL l (r :: rs) each.length F).1 l (r :: rs) each.length then some (numL l (r :: rs) each.length F).1 else none := by
   intro B' hok hc G b hG hst hno hk hf
   rw [hG, spreadL, hc]
   dsimp only
   by_cases hlt : each.length < l.length
   ·rw [if_pos (by omega)]
    have hi := ih B' (r.binds (l[each.length]?.getD ByteArray.empty) F) (each ++ List.replicate 1 r) hok (by simp; omega)
    rw [show (each ++ List.replicate 1 r).length = each.length + 1 by simp, hst hlt] at hi
    refine ⟨hi.1, fun E hE => ?_⟩
    obtain ⟨X, hX, hfit⟩ := hi.2 E hE
    refine ⟨r :: X, by rw [hX]; simp, ?_⟩
    rw [fit_one r X l _ F hlt, hfit, hk, hf hlt]
    cases r.fits F (l[each.length]?.getD ByteArray.empty) <;> rfl
   ·rw [if_neg (by omega), hno (by omega)]
    exact ⟨rfl, fun E hE => by cases hE⟩
  have over : ∀ (F' : Bnd), l.length ≤ each.length → (numL l rs (each.length + 1) F').2 = false := fun F' hle => num_over l rs _ F' (by omega)
  have eqv : ∀ {B' : UInt8 → Bool} {v : UInt8} (p : Nat), okR B' rs = true → B' v = true → vS (numL l rs p F).1 v = vS F v := fun p h1 h2 => by
   unfold vS; rw [num_bound l rs _ p F _ h1 h2]
  cases r with
  | bad => cases h
  | anys =>
   obtain rfl : rs = [] := List.isEmpty_iff.1 h
   have hl : l.length - each.length = (l.drop each.length).length := by rw [List.length_drop]
   rw [spreadL, numL]
   show (if l.length - each.length ≤ l.length - each.length then spreadL l [] F (each ++ List.replicate (l.length - each.length) .anys) else none).isSome = _ ∧ _
   rw [if_pos (Nat.le_refl _), spreadL, if_pos (by simp; omega)]
   refine ⟨(decide_eq_true hp).symm, fun E hE => ⟨List.replicate (l.length - each.length) .anys, ?_, ?_⟩⟩
   ·replace hE : (if l.length - each.length ≤ l.length - each.length then spreadL l [] F (each ++ List.replicate (l.length - each.length) .anys) else none) = some E := hE
    rw [if_pos (Nat.le_refl _), spreadL, if_pos (by simp; omega)] at hE
    cases hE; rfl
   ·rw [hl, fit_rep_any]; rfl
  | nums =>
   obtain rfl : rs = [] := List.isEmpty_iff.1 h
   have hl : l.length - each.length = (l.drop each.length).length := by rw [List.length_drop]
   rw [spreadL, numL]
   show (if l.length - each.length ≤ l.length - each.length then spreadL l [] F (each ++ List.replicate (l.length - each.length) .nums) else none).isSome = _ ∧ _
   rw [if_pos (Nat.le_refl _), spreadL, if_pos (by simp; omega)]
   refine ⟨(decide_eq_true hp).symm, fun E hE => ⟨List.replicate (l.length - each.length) .nums, ?_, ?_⟩⟩
   ·replace hE : (if l.length - each.length ≤ l.length - each.length then spreadL l [] F (each ++ List.replicate (l.length - each.length) .nums) else none) = some E := hE
    rw [if_pos (Nat.le_refl _), spreadL, if_pos (by simp; omega)] at hE
    cases hE; rfl
   ·rw [hl, fit_rep_num]; rfl
  | index v =>
   unfold okR at h
   rw [Bool.and_eq_true] at h
   have hv := eqv (each.length + rankS (vS F v)) h.2 h.1
   rw [spreadL]
   show (if rankS (vS F v) ≤ l.length - each.length then spreadL l rs F (each ++ List.replicate (rankS (vS F v)) (.index v)) else none).isSome = (numL l rs (each.length + rankS (vS F v)) F).2 ∧ _
   by_cases hle : rankS (vS F v) ≤ l.length - each.length
   ·rw [if_pos hle]
    have hi := ih B F (each ++ List.replicate (rankS (vS F v)) (.index v)) h.2 (by simp; omega)
    rw [show (each ++ List.replicate (rankS (vS F v)) (Rule.index v)).length = each.length + rankS (vS F v) by simp] at hi
    refine ⟨hi.1, fun E hE => ?_⟩
    rw [show (if Rule.count F (l.length - each.length) (.index v) ≤ l.length - each.length then spreadL l rs (Rule.binds (l[each.length]?.getD ByteArray.empty) F (.index v)) (each ++ List.replicate (Rule.count F (l.length - each.length) (.index v)) (.index v)) else none) = spreadL l rs F (each ++ List.replicate (rankS (vS F v)) (.index v)) from if_pos hle] at hE
    obtain ⟨X, hX, hfit⟩ := hi.2 E hE
    refine ⟨List.replicate (rankS (vS F v)) (.index v) ++ X, by rw [hX, List.append_assoc], ?_⟩
    rw [fit_rep_index v _ X _ F (by rw [List.length_drop]; omega), List.drop_drop, hfit]
    show _ = if (((l.drop each.length).take (rankS (vS (numL l rs (each.length + rankS (vS F v)) F).1 v))).all (fun t => t.data.toList == indexS.data.toList) && keptL (numL l rs (each.length + rankS (vS F v)) F).1 l rs (each.length + rankS (vS (numL l rs (each.length + rankS (vS F v)) F).1 v))) then some (numL l rs (each.length + rankS (vS F v)) F).1 else none
    rw [hv]
    cases ((l.drop each.length).take (rankS (vS F v))).all (fun t => t.data.toList == indexS.data.toList) <;> rfl
   ·rw [if_neg hle, num_over l rs _ F (by omega)]
    refine ⟨rfl, fun E hE => ?_⟩
    rw [show (if Rule.count F (l.length - each.length) (.index v) ≤ l.length - each.length then spreadL l rs (Rule.binds (l[each.length]?.getD ByteArray.empty) F (.index v)) (each ++ List.replicate (Rule.count F (l.length - each.length) (.index v)) (.index v)) else none) = none from if_neg hle] at hE
    cases hE
  | bind v c =>
   unfold okR at h
   rw [Bool.and_eq_true] at h
   refine one _ h.2 (fun _ => rfl) (numL l rs (each.length + 1) (if each.length < l.length then setAt F (v.toNat : Int) (l[each.length]?.getD ByteArray.empty) else F)).1 (numL l rs (each.length + 1) (if each.length < l.length then setAt F (v.toNat : Int) (l[each.length]?.getD ByteArray.empty) else F)).2 rfl (fun hlt => ?_) (over _) rfl (fun _ => rfl)
   rw [if_pos hlt]
   rfl
  | fixed t => exact one B h (fun _ => rfl) _ _ rfl (fun _ => rfl) (over _) rfl (fun _ => rfl)
  | same v =>
   unfold okR at h
   rw [Bool.and_eq_true] at h
   exact one B h.2 (fun _ => rfl) _ _ rfl (fun _ => rfl) (over _) rfl (fun _ => by show (_ == (vS _ v).data.toList) = _; rw [eqv _ h.2 h.1]; rfl)
  | elem v =>
   unfold okR at h
   rw [Bool.and_eq_true] at h
   exact one B h.2 (fun _ => rfl) _ _ rfl (fun _ => rfl) (over _) rfl (fun _ => by show (_ == (elS (vS _ v)).data.toList) = _; rw [eqv _ h.2 h.1]; rfl)
  | turn v =>
   unfold okR at h
   rw [Bool.and_eq_true] at h
   exact one B h.2 (fun _ => rfl) _ _ rfl (fun _ => rfl) (over _) rfl (fun _ => by show (_ == (turnS (vS _ v)).data.toList) = _; rw [eqv _ h.2 h.1]; rfl)
theorem num_outs (l : List ByteArray) : ∀ (rs : List Rule) (p : Nat) (F : Bnd), rs.any Rule.inOnly = false → (numL l rs p F).1 = F := by
 intro rs
 induction rs with
 | nil => intro p F _; rfl
 | cons r rs ih =>
  intro p F h
  rw [List.any_cons, Bool.or_eq_false_iff] at h
  cases r with
  | bind v c => cases h.1
  | index v => cases h.1
  | anys => rfl
  | nums => rfl
  | _ => exact ih _ _ h.2
theorem spread_outs (l : List ByteArray) : ∀ (rs : List Rule) (F G : Bnd) (each : List Rule), rs.any Rule.inOnly = false → spreadL l rs F each = spreadL l rs G each := by
 intro rs
 induction rs with
 | nil => intro F G each _; rfl
 | cons r rs ih =>
  intro F G each h
  rw [List.any_cons, Bool.or_eq_false_iff] at h
  rw [spreadL, spreadL]
  cases r with
  | bind v c => cases h.1
  | index v => cases h.1
  | _ => simp only [Rule.count, Rule.binds]; rw [ih F G _ h.2]; rfl
def matchR (d : DefD) (ins outs : List ByteArray) : Int :=
 if ((numL ins (d.ins.map ruleOf) 0 noB).2 && (numL outs (d.outs.map ruleOf) 0 (numL ins (d.ins.map ruleOf) 0 noB).1).2) = true then
  (if (keptL (numL outs (d.outs.map ruleOf) 0 (numL ins (d.ins.map ruleOf) 0 noB).1).1 ins (d.ins.map ruleOf) 0 && keptL (numL outs (d.outs.map ruleOf) 0 (numL ins (d.ins.map ruleOf) 0 noB).1).1 outs (d.outs.map ruleOf) 0) = true then 0 else 62) else 61
def inferR (d : DefD) (ins : List ByteArray) : List ByteArray × Int :=
 if (numL ins (d.ins.map ruleOf) 0 noB).2 = true then
  (if keptL (numL ins (d.ins.map ruleOf) 0 noB).1 ins (d.ins.map ruleOf) 0 = true then
   (if (d.outs.map ruleOf).any Rule.many then ([], 1) else ((d.outs.map ruleOf).map (onlyL (numL ins (d.ins.map ruleOf) 0 noB).1), 0)) else ([], 62)) else ([], 61)
theorem signed_ok {d : DefD} (h : signedL d = true) : okR (fun _ => false) (d.ins.map ruleOf) = true ∧ (∃ B, okR B (d.outs.map ruleOf) = true) ∧ (d.outs.map ruleOf).any Rule.inOnly = false := by
 unfold signedL at h
 rw [Bool.and_eq_true] at h
 obtain ⟨-, h⟩ := h
 cases hg : goC false d.ins.length 0 (d.ins.map ruleOf) (fun _ => none) with
 | none => rw [hg] at h; cases h
 | some F =>
  rw [hg] at h
  dsimp only at h
  rw [Bool.and_eq_true] at h
  obtain ⟨G, hG⟩ := Option.isSome_iff_exists.1 h.1
  exact ⟨go_ok _ _ _ _ (by simp) hg, ⟨_, go_ok _ _ _ _ (by simp) hG⟩, by simpa using h.2⟩
theorem match_ways {d : DefD} (h : signedL d = true) (ins outs : List ByteArray) : matchR d ins outs = matchL d ins outs := by
 obtain ⟨h1, ⟨B, h2⟩, h3⟩ := signed_ok h
 obtain ⟨a1, a2⟩ := ways ins _ _ noB [] h1 (Nat.zero_le _)
 obtain ⟨b1, b2⟩ := ways outs _ B (numL ins (d.ins.map ruleOf) 0 noB).1 [] h2 (Nat.zero_le _)
 have hG := num_outs outs _ 0 (numL ins (d.ins.map ruleOf) 0 noB).1 h3
 rw [spread_outs outs _ _ noB _ h3] at b1 b2
 rw [List.length_nil] at a1 a2 b1 b2
 rw [hG] at b2
 unfold matchR matchL
 rw [hG, ← a1, ← b1]
 cases hs : spreadL ins (d.ins.map ruleOf) noB [] with
 | none => rfl
 | some E =>
  cases ht : spreadL outs (d.outs.map ruleOf) noB [] with
  | none => rfl
  | some E2 =>
   obtain ⟨X, rfl, hX⟩ := a2 E hs
   obtain ⟨Y, rfl, hY⟩ := b2 E2 ht
   rw [List.drop_zero] at hX hY
   dsimp only [List.nil_append, Option.isSome_some, Bool.and_self, if_true]
   rw [hX]
   cases hk : keptL (numL ins (d.ins.map ruleOf) 0 noB).1 ins (d.ins.map ruleOf) 0
   ·rfl
   ·simp only [if_true, Bool.true_and]
    rw [hY]
    cases keptL (numL ins (d.ins.map ruleOf) 0 noB).1 outs (d.outs.map ruleOf) 0 <;> rfl
theorem infer_ways {d : DefD} (h : signedL d = true) (ins : List ByteArray) : inferR d ins = inferL d ins := by
 obtain ⟨h1, -, -⟩ := signed_ok h
 obtain ⟨a1, a2⟩ := ways ins _ _ noB [] h1 (Nat.zero_le _)
 rw [List.length_nil] at a1 a2
 unfold inferR inferL
 rw [← a1]
 cases hs : spreadL ins (d.ins.map ruleOf) noB [] with
 | none => rfl
 | some E =>
  obtain ⟨X, rfl, hX⟩ := a2 E hs
  rw [List.drop_zero] at hX
  dsimp only [List.nil_append, Option.isSome_some, if_true]
  rw [hX]
  cases hk : keptL (numL ins (d.ins.map ruleOf) 0 noB).1 ins (d.ins.map ruleOf) 0 <;> rfl
end Go.Proofs.YtgimdkgjfenafaaGreatDoor
namespace Go.Proofs.YtgimdkgjfenafaaGreatDoor
open Go.RowKit
def ReadT (s : ByteArray) (w : World) (e : Ending) (w' : World) : Prop := Below w.heap.size w w' ∧ ∃ (K b : Int) (es : List Int) (el : ByteArray) (ao : Option Addr) (c : Nat) (ok : Bool),
 e = .returned (.tuple #[.agg #[.int .i64 K, .int .i64 b, .slice ao es.length c, .string el], .bool ok]) ∧ IntsAt w' ao es ∧ es.length = rankS s ∧ el = elS s ∧ (isT s = true → K = kindS s) ∧ ((K = 2 ∨ K = 3) ∨ rankS s = 0) ∧
 ((es = [] ∧ el = ⟨#[]⟩ ∧ turnS s = ⟨#[]⟩) ∨ (0 ≤ K ∧ K ≤ 4 ∧ es.length ≤ 3 ∧ (∀ x ∈ es, 0 ≤ x ∧ x ≤ 1000) ∧ turnS s = if K = 2 ∨ K = 3 then ⟨(makeL (5 - K) es el.data.toList).2.toArray⟩ else ⟨#[]⟩))
theorem ReadT_any (s : ByteArray) (hs : s.size ≤ 9223372036854775807) (w : World) : Calls Tryz.prog 88 #[.string s] w (ReadT s w) := by
 refine (Read_some s hs w).mono ?_
 rintro e w' ⟨hb, (⟨hn, T, rfl⟩ | ⟨k, b, es, el, ao, c, hn, hz, rfl⟩)⟩
 ·refine ⟨hb, T, 0, [], ⟨#[]⟩, none, 0, false, rfl, .inl rfl, ?_, ?_, fun h => ?_, .inr ?_, .inl ⟨rfl, rfl, ?_⟩⟩
  ·unfold rankS; rw [hn]; rfl
  ·unfold elS; rw [hn]
  ·unfold isT at h; rw [hn] at h; cases h
  ·unfold rankS; rw [hn]
  ·unfold turnS; rw [hn]
 ·rcases agree_ty' s with ⟨hn', _⟩ | ⟨k', b', r, e0, e1, e2, el', hr, hn', hT⟩
  ·rw [hn] at hn'; cases hn'
  ·rw [hn] at hn'
   injection hn' with hn'
   injection hn' with q1 hn'
   injection hn' with q2 hn'
   injection hn' with q3 q4
   subst q1 q2
   obtain ⟨hk, -, -, h0, h1, h2, -, h7⟩ := desc_wf hT.is
   refine ⟨hb, k, b, es, el, ao, c, true, rfl, hz, ?_, ?_, fun _ => ?_, ?_, .inr ⟨hk.1, hk.2, ?_, ?_, ?_⟩⟩
   ·unfold rankS; rw [hn]
   ·unfold elS; rw [hn]
   ·unfold kindS; rw [hn]
   ·by_cases h23 : k = 2 ∨ k = 3
    ·exact .inl h23
    ·refine .inr ?_
     unfold rankS
     rw [hn]
     show es.length = 0
     rw [q3, (h7 h23).1]
     rfl
   ·rw [q3, List.length_take]; exact Nat.le_trans (Nat.min_le_right _ _) (by simp)
   ·intro x hx
    rw [q3] at hx
    have := List.mem_of_mem_take hx
    simp only [List.mem_cons, List.not_mem_nil, or_false] at this
    rcases this with rfl | rfl | rfl
    ·exact h0
    ·exact h1
    ·exact h2
   ·unfold turnS; rw [hn]
theorem num_type {t : ByteArray} (h : isT t = true) : (numberR t.data.toList).2.2 = ofC t .num := by
 show _ = (kindS t == 0 || kindS t == 1)
 unfold kindS
 unfold isT at h
 unfold readR at h ⊢
 cases hn : (numberR t.data.toList).2.2
 ·rw [hn] at h
  simp only [Bool.false_eq_true, if_false] at h ⊢
  split
  ·rename_i q hq
   split at hq
   ·split at hq <;> cases hq
    rfl
   ·split at hq
    ·cases hq
    ·split at hq
     ·cases hq
     ·split at hq
      ·cases hq
       split <;> rfl
      ·cases hq
  ·rename_i hq
   rw [hq] at h
   cases h
 ·simp only [if_true]
  cases (numberR t.data.toList).2.1 <;> rfl
def RMap (w : World) (mb c : Nat) (F : Bnd) : Prop := MapS 5 9 .u8 w mb c F
theorem RMap.get {w : World} {mb c : Nat} {F : Bnd} (h : RMap w mb c F) (v : UInt8) : (Instr.lookup 115 (.map (some mb)) (.int .u8 (v.toNat : Int)) false).run Tryz.prog w = .ok (.string (vS F v)) w :=
 MapS.get h Tryz.underlying115 Tryz.underlying5 Tryz.underlying9 (z_string _) (u8_key v)
def Fine (F : Bnd) : Prop := ∀ (x : Int) (t : ByteArray), F x = some t → t.size ≤ 9223372036854775807
theorem Fine.at {F : Bnd} (h : Fine F) (v : UInt8) : (vS F v).size ≤ 9223372036854775807 := by
 unfold vS
 cases hF : F (v.toNat : Int) with
 | none => exact Nat.zero_le _
 | some t => exact h _ t hF
theorem Fine.set {F : Bnd} (h : Fine F) (x : Int) {t : ByteArray} (ht : t.size ≤ 9223372036854775807) : Fine (setAt F x t) := fun y u hu => by
 by_cases e : y = x
 ·subst e; rw [setAt_same] at hu; cases hu; exact ht
 ·rw [setAt_other _ _ e] at hu; exact h y u hu
set_option maxHeartbeats 400000 in
theorem MakeR_empty (k : Int) (ao : Option Addr) (c : Nat) (w : World) : Calls Tryz.prog 94 #[.int .i64 k, .slice ao 0 c, .string ⟨#[]⟩] w fun e w' => (∃ z : Int, e = .returned (.tuple #[.string ⟨#[]⟩, .int .i64 z])) ∧ Below w.heap.size w w' := by
 by_cases hk : k = 2 ∨ k = 3
 ·refine (MakeR_rest k hk ao [] c (Nat.zero_le _) (fun x hx => by cases hx) ⟨#[]⟩ w (.inl rfl)).mono ?_
  rintro e w' ⟨rfl, hb⟩
  exact ⟨⟨_, rfl⟩, hb⟩
 ·refine (MakeR_kind k hk ao 0 c ⟨#[]⟩ w).mono ?_
  rintro e w' ⟨rfl, rfl⟩
  exact ⟨⟨_, rfl⟩, Below.refl _ _⟩
set_option maxHeartbeats 4000000 in
set_option maxRecDepth 100000 in
theorem RFitsT_any (c : Cls) (t : ByteArray) (ht : isT t = true) (hz : t.size ≤ 9223372036854775807) (w : World) :
  Calls Tryz.prog 91 #[.string c.str, .string t] w fun e w' => e = .returned (.bool (ofC t c)) ∧ Below w.heap.size w w' := by
 obtain ⟨s, hs⟩ : ∃ s, s = c.str := ⟨_, rfl⟩
 rw [← hs]
 have q : ∀ m : List UInt8, (s.toList == m) = (c.word == m) := fun m => by rw [hs, ByteArray.toList_eq]; rfl
 have HRT := Lib.hid (ReadT_any t hz w)
 have HN := Lib.hid (num_type ht)
 have HT := Lib.hid ht
 have HQ := Lib.hid q
 clear hs ht hz q
 go_enter Tryz.func91, Tryz.ntmps91
 go_wp2_with fail
 refine HRT.out.mono ?_
 rintro e w1 ⟨hb, K, b, es, el, ao, cc, ok, rfl, -, -, -, hk, -, -⟩
 obtain rfl := hk HT.out
 generalize hK : kindS t = K
 have HK := Lib.hid hK
 have B1 := Lib.hid hb
 clear hb hk hK HRT
 have T1 := Lib.hid (heap_alloc_new w1 (.cells #[.int .i64 K, .int .i64 b, .slice ao es.length cc, .string el] 165))
 have N1 := Lib.hid (new_below w1 (.cells #[.int .i64 K, .int .i64 b, .slice ao es.length cc, .string el] 165))
 go_upto_region 2 with fail
 generalize w1.alloc (.cells #[.int .i64 K, .int .i64 b, .slice ao es.length cc, .string el] 165) = W2 at T1 N1 ⊢
 generalize w1.heap.size = D at T1 ⊢
 have B2 := Lib.hid (B1.out.trans (N1.out.mono B1.out.size))
 obtain ⟨t0, t1, t2, t3, tf⟩ := cells4 T1.out
 cases c
 case int =>
  have q0 : (s.toList == [105, 110, 116]) = true := (HQ.out _).trans (by decide)
  go_wp2_with fail
  go_ret
  exact ⟨by first | rfl | (rw [← HK.out]; rfl), B2.out⟩
 case num =>
  have q0 : (s.toList == [105, 110, 116]) = false := (HQ.out _).trans (by decide)
  have q1 : (s.toList == [110, 117, 109]) = true := (HQ.out _).trans (by decide)
  go_wp2_with fail
  refine (IsNumber_ref t W2).mono ?_
  rintro e w3 ⟨rfl, rfl⟩
  rw [HN.out]
  obtain ⟨res, hres⟩ : ∃ res, res = ofC t .num := ⟨_, rfl⟩
  rw [← hres]
  have HRES := Lib.hid hres
  clear hres
  go_wp2_with fail
  go_ret
  exact ⟨by rw [← HRES.out]; rfl, B2.out⟩
 case mem =>
  have q0 : (s.toList == [105, 110, 116]) = false := (HQ.out _).trans (by decide)
  have q1 : (s.toList == [110, 117, 109]) = false := (HQ.out _).trans (by decide)
  have q2 : (s.toList == [109, 101, 109]) = true := (HQ.out _).trans (by decide)
  go_wp2_with fail
  go_ret
  exact ⟨by first | rfl | (rw [← HK.out]; rfl), B2.out⟩
 case arr =>
  have q0 : (s.toList == [105, 110, 116]) = false := (HQ.out _).trans (by decide)
  have q1 : (s.toList == [110, 117, 109]) = false := (HQ.out _).trans (by decide)
  have q2 : (s.toList == [109, 101, 109]) = false := (HQ.out _).trans (by decide)
  have q3 : (s.toList == [97, 114, 114]) = true := (HQ.out _).trans (by decide)
  go_wp2_with fail
  go_ret
  exact ⟨by first | rfl | (rw [← HK.out]; rfl), B2.out⟩
 case any =>
  have q0 : (s.toList == [105, 110, 116]) = false := (HQ.out _).trans (by decide)
  have q1 : (s.toList == [110, 117, 109]) = false := (HQ.out _).trans (by decide)
  have q2 : (s.toList == [109, 101, 109]) = false := (HQ.out _).trans (by decide)
  have q3 : (s.toList == [97, 114, 114]) = false := (HQ.out _).trans (by decide)
  go_wp2_with fail
  go_ret
  exact ⟨by first | rfl | (rw [← HK.out]; rfl), B2.out⟩
def Rule.one : Rule → Bool
 | .fixed _ => true | .same _ => true | .elem _ => true | .turn _ => true | _ => false
theorem one_only {r : Rule} (h : r.one = true) (F : Bnd) : (r.sortR = 1 ∧ onlyL F r = r.whatR) ∨ (r.sortR = 3 ∧ onlyL F r = vS F r.v) ∨ (r.sortR = 4 ∧ onlyL F r = elS (vS F r.v)) ∨ (r.sortR = 5 ∧ onlyL F r = turnS (vS F r.v)) := by
 cases r with
 | fixed t => exact .inl ⟨rfl, rfl⟩
 | same v => exact .inr (.inl ⟨rfl, rfl⟩)
 | elem v => exact .inr (.inr (.inl ⟨rfl, rfl⟩))
 | turn v => exact .inr (.inr (.inr ⟨rfl, rfl⟩))
 | _ => cases h
set_option maxHeartbeats 8000000 in
set_option maxRecDepth 100000 in
theorem RStands_any (r : Rule) (hr : r.one = true) (mb c : Nat) (F : Bnd) (hF : Fine F) (w : World) (hm : RMap w mb c F) :
  Calls Tryz.prog 57 #[.agg #[.int .i64 r.sortR, .int .u8 (r.v.toNat : Int), .string r.whatR], .map (some mb)] w fun e w' => e = .returned (.string (onlyL F r)) ∧ Below w.heap.size w w' := by
 have T0 := Lib.hid (heap_alloc_new w (.cells #[.int .i64 r.sortR, .int .u8 (r.v.toNat : Int), .string r.whatR] 119))
 have B1 := Lib.hid (new_below w (.cells #[.int .i64 r.sortR, .int .u8 (r.v.toNat : Int), .string r.whatR] 119))
 have hlk := RMap.get (MapS.below hm B1.out) r.v
 have HRT := Lib.hid (ReadT_any (vS F r.v) (hF.at r.v) (w.alloc (.cells #[.int .i64 r.sortR, .int .u8 (r.v.toNat : Int), .string r.whatR] 119)))
 have HON := Lib.hid (one_only hr F)
 clear hm hF hr
 generalize r.sortR = s at *
 generalize (r.v.toNat : Int) = vz at *
 generalize r.whatR = wt at *
 generalize vS F r.v = x at *
 generalize onlyL F r = res at *
 go_enter Tryz.func57, Tryz.ntmps57
 go_upto_region 1 with fail
 generalize w.alloc (.cells #[.int .i64 s, .int .u8 vz, .string wt] 119) = W1 at T0 B1 hlk HRT ⊢
 generalize hD : w.heap.size = D at T0 ⊢
 have HDE := Lib.hid hD
 clear hD
 obtain ⟨c0, c1, c2, cf⟩ := cells3 T0.out
 go_wp2_with fail
 clear hlk
 refine HRT.out.mono ?_
 rintro e w1 ⟨hb, K, b, es, el, ao, cc, ok, rfl, hz, hrk, hel, -, -, htq⟩
 have B2 := Lib.hid (B1.out.trans (hb.mono B1.out.size))
 have HZ := Lib.hid hz
 have HEL := Lib.hid hel
 have HTQ := Lib.hid htq
 have S1 := Lib.hid ((hb.block _ (lt_of_block T0.out)).trans T0.out)
 clear hb hz hrk hel htq HRT T0 c0 c1 c2 cf
 have T1 := Lib.hid (heap_alloc_new w1 (.cells #[.int .i64 K, .int .i64 b, .slice ao es.length cc, .string el] 165))
 have N1 := Lib.hid (new_below w1 (.cells #[.int .i64 K, .int .i64 b, .slice ao es.length cc, .string el] 165))
 go_upto_region 3 with fail
 generalize w1.alloc (.cells #[.int .i64 K, .int .i64 b, .slice ao es.length cc, .string el] 165) = W2 at T1 N1 ⊢
 generalize w1.heap.size = D2 at T1 ⊢
 have B3 := Lib.hid (B2.out.trans (N1.out.mono B2.out.size))
 have S2 := Lib.hid ((N1.out.block _ (lt_of_block S1.out)).trans S1.out)
 have HZ2 := Lib.hid (HZ.out.below N1.out)
 clear S1 HZ N1 B1 B2
 obtain ⟨c0, c1, c2, cf⟩ := cells3 S2.out
 obtain ⟨t0, t1, t2, t3, tf⟩ := cells4 T1.out
 rcases HON.out with ⟨rfl, hx⟩ | ⟨rfl, hx⟩ | ⟨rfl, hx⟩ | ⟨rfl, hx⟩
 ·have HX := Lib.hid hx
  clear hx
  go_wp2_with fail
  go_ret
  exact ⟨by rw [HX.out]; rfl, HDE.out ▸ B3.out⟩
 ·have HX := Lib.hid hx
  clear hx
  go_wp2_with fail
  go_ret
  exact ⟨by rw [HX.out]; rfl, HDE.out ▸ B3.out⟩
 ·have HX := Lib.hid hx
  clear hx
  go_wp2_with fail
  go_ret
  exact ⟨by rw [HX.out, HEL.out]; rfl, HDE.out ▸ B3.out⟩
 rcases HTQ.out with ⟨rfl, rfl, ht⟩ | ⟨hk0, hk4, h3, hx2, ht⟩
 ·have HTU := Lib.hid (hx.trans ht)
  clear ht hx HTQ HEL
  go_wp2_with fail
  refine (MakeR_empty _ _ _ W2).mono ?_
  rintro e w4 ⟨⟨z, rfl⟩, hb⟩
  have B4 := Lib.hid (B3.out.trans (hb.mono B3.out.size))
  clear hb
  go_wp2_with fail
  go_ret
  exact ⟨by rw [HTU.out]; rfl, HDE.out ▸ B4.out⟩
 have HTU := Lib.hid (hx.trans ht)
 have HX := Lib.hid (And.intro h3 hx2)
 have hk : K = 0 ∨ K = 1 ∨ K = 2 ∨ K = 3 ∨ K = 4 := by omega
 clear ht hx HTQ HEL h3 hx2 hk0 hk4
 rcases hk with rfl | rfl | rfl | rfl | rfl
 ·have HTV := Lib.hid (HTU.out.trans (if_neg (by decide)))
  go_wp2_with fail
  refine (MakeR_kind 5 (by decide) ao es.length cc el W2).mono ?_
  rintro e w4 ⟨rfl, rfl⟩
  go_wp2_with fail
  go_ret
  exact ⟨by rw [HTV.out]; rfl, HDE.out ▸ B3.out⟩
 ·have HTV := Lib.hid (HTU.out.trans (if_neg (by decide)))
  go_wp2_with fail
  refine (MakeR_kind 4 (by decide) ao es.length cc el W2).mono ?_
  rintro e w4 ⟨rfl, rfl⟩
  go_wp2_with fail
  go_ret
  exact ⟨by rw [HTV.out]; rfl, HDE.out ▸ B3.out⟩
 ·have HTV := Lib.hid (show res = ⟨(makeL 3 es el.data.toList).2.toArray⟩ from HTU.out.trans (if_pos (by decide)))
  have HMK := Lib.hid (MakeR_rest 3 (by decide) ao es cc HX.out.1 HX.out.2 el W2 HZ2.out)
  generalize makeL 3 es el.data.toList = mk at HMK HTV
  go_wp2_with fail
  refine HMK.out.mono ?_
  rintro e w4 ⟨rfl, hb⟩
  have B4 := Lib.hid (B3.out.trans (hb.mono B3.out.size))
  clear hb
  go_wp2_with fail
  go_ret
  exact ⟨by rw [HTV.out]; rfl, HDE.out ▸ B4.out⟩
 ·have HTV := Lib.hid (show res = ⟨(makeL 2 es el.data.toList).2.toArray⟩ from HTU.out.trans (if_pos (by decide)))
  have HMK := Lib.hid (MakeR_rest 2 (by decide) ao es cc HX.out.1 HX.out.2 el W2 HZ2.out)
  generalize makeL 2 es el.data.toList = mk at HMK HTV
  go_wp2_with fail
  refine HMK.out.mono ?_
  rintro e w4 ⟨rfl, hb⟩
  have B4 := Lib.hid (B3.out.trans (hb.mono B3.out.size))
  clear hb
  go_wp2_with fail
  go_ret
  exact ⟨by rw [HTV.out]; rfl, HDE.out ▸ B4.out⟩
 ·have HTV := Lib.hid (HTU.out.trans (if_neg (by decide)))
  go_wp2_with fail
  refine (MakeR_kind 1 (by decide) ao es.length cc el W2).mono ?_
  rintro e w4 ⟨rfl, rfl⟩
  go_wp2_with fail
  go_ret
  exact ⟨by rw [HTV.out]; rfl, HDE.out ▸ B3.out⟩
end Go.Proofs.YtgimdkgjfenafaaGreatDoor
namespace Go.Proofs.YtgimdkgjfenafaaGreatDoor
open Go.RowKit
theorem num_at {l : List ByteArray} {rs : List Rule} {m : Nat} {r : Rule} (h : rs[m]? = some r) (p : Nat) (F : Bnd) : numL l (rs.drop m) p F = numL l (r :: rs.drop (m + 1)) p F := by
 obtain ⟨hl, hv⟩ := List.getElem?_eq_some_iff.1 h
 rw [List.drop_eq_getElem_cons hl, hv]
def Rule.plainN : Rule → Bool
 | .bad => true | .fixed _ => true | .same _ => true | .elem _ => true | .turn _ => true | _ => false
theorem plain_num {r : Rule} (h : r.plainN = true) (l : List ByteArray) (rs : List Rule) (p : Nat) (F : Bnd) : numL l (r :: rs) p F = numL l rs (p + 1) F := by cases r <;> first | rfl | cases h
theorem plain_sort {r : Rule} (h : r.plainN = true) : (r.sortR == 7) = false ∧ (r.sortR == 8) = false ∧ (r.sortR == 6) = false ∧ (r.sortR == 2) = false := by cases r <;> first | exact ⟨rfl, rfl, rfl, rfl⟩ | cases h
def NumP (ss l : List ByteArray) (mb c : Nat) (F : Bnd) (w : World) (e : Ending) (w' : World) : Prop := w.grownBy w' (some mb) ∧ e = .returned (.bool (numL l (ss.map ruleOf) 0 F).2) ∧ RMap w' mb (c + ss.length) (numL l (ss.map ruleOf) 0 F).1 ∧ Fine (numL l (ss.map ruleOf) 0 F).1
structure NuS (ss l : List ByteArray) (ao la : Option Addr) (mb c : Nat) (F : Bnd) (w : World) (m p : Nat) (F' : Bnd) (wr : World) : Prop where
 grown : w.grownBy wr (some mb)
 map : RMap wr mb (c + m) F'
 fine : Fine F'
 so : numL l (ss.map ruleOf) 0 F = numL l ((ss.map ruleOf).drop m) p F'
 strs : StrsAt wr ao ss
 types : StrsAt wr la l
theorem NumP.of {ss l : List ByteArray} {mb c m : Nat} {F F' : Bnd} {b : Bool} {w w' : World} (hg : w.grownBy w' (some mb)) (hm : RMap w' mb (c + m) F') (hc : m ≤ ss.length) (hf : Fine F') (h : numL l (ss.map ruleOf) 0 F = (F', b)) : NumP ss l mb c F w (.returned (.bool b)) w' := by
 unfold NumP
 rw [h]
 exact ⟨hg, rfl, MapS.mono hm (by omega), hf⟩
set_option maxHeartbeats 16000000 in
set_option maxRecDepth 100000 in
theorem RNumbers_any (ao : Option Addr) (ss : List ByteArray) (c0 : Nat) (hss : ss.length ≤ 10) (hsz : ∀ s ∈ ss, s.size ≤ 9223372036854775807) (la : Option Addr) (l : List ByteArray) (lc : Nat) (hl : l.length ≤ 1048576) (hz : ∀ t ∈ l, t.size ≤ 9223372036854775807) (mb c : Nat) (hc : c ≤ 1000000) (F : Bnd) (hF : Fine F) (w : World) (hs : StrsAt w ao ss) (hL : StrsAt w la l) (hm : RMap w mb c F) :
  Calls Tryz.prog 54 #[.slice ao ss.length c0, .slice la l.length lc, .map (some mb)] w (NumP ss l mb c F w) := by
 have HS := Lib.hid hs
 have HL := Lib.hid hL
 have HM := Lib.hid hm
 have HF := Lib.hid hF
 have HSZ := Lib.hid hsz
 have HZ := Lib.hid hz
 have HC := Lib.hid hc
 have HSS := Lib.hid hss
 have hssi : (ss.length : Int) ≤ 10 := by omega
 have hli : (l.length : Int) ≤ 1048576 := by omega
 clear hs hL hm hF hsz hz hc hss hl
 go_enter Tryz.func54, Tryz.ntmps54
 go_wp2_with fail
 go_loopw [7, 8] (fun pv iv wr => ∃ (m p : Nat) (F' : Bnd), m ≤ ss.length ∧ p ≤ 3 * m ∧ pv = .int .i64 p ∧ iv = .int .i64 m ∧ Hid (NuS ss l ao la mb c F w m p F' wr)) (fun _ iv _ => ss.length - (intOf iv).toNat)
 case atStart => exact ⟨0, 0, F, Nat.zero_le _, Nat.le_refl _, rfl, rfl, ⟨⟨rfl, rfl, rfl, Nat.le_refl _, fun _ _ _ => rfl⟩, HM.out, HF.out, rfl, HS.out, HL.out⟩⟩
 case round =>
  obtain ⟨m, p, F', hmm, hpm, rfl, rfl, HR⟩ := hrel
  have hpi : (p : Int) ≤ 30 := by have := HSS.out; omega
  have HPM := Lib.hid hpm
  clear hpm
  by_cases hlt : m < ss.length
  rotate_left
  ·have hge : ¬ (m : Int) < (ss.length : Int) := by omega
   obtain rfl : m = ss.length := by omega
   have HSO := Lib.hid (show numL l (ss.map ruleOf) 0 F = (F', decide (l.length = p)) by rw [HR.out.so, List.drop_eq_nil_of_le (by rw [List.length_map]; omega)]; rfl)
   clear hlt hmm
   by_cases hlp : l.length = p
   ·have hq : ((l.length : Int) == (p : Int)) = true := by rw [hlp]; exact beq_self_eq_true _
    have HQ := Lib.hid (HSO.out.trans (by rw [decide_eq_true hlp]))
    clear hlp
    go_wp2_with fail
    go_ret
    exact NumP.of HR.out.grown HR.out.map (Nat.le_refl _) HR.out.fine HQ.out
   ·have hq : ((l.length : Int) == (p : Int)) = false := beq_eq_false_iff_ne.2 (by omega)
    have HQ := Lib.hid (HSO.out.trans (by rw [decide_eq_false hlp]))
    clear hlp
    go_wp2_with fail
    go_ret
    exact NumP.of HR.out.grown HR.out.map (Nat.le_refl _) HR.out.fine HQ.out
  obtain ⟨a, rfl⟩ : ∃ a, ao = some a := by
   rcases HR.out.strs with h0 | ⟨a, h, _⟩
   ·rw [h0] at hlt; exact absurd hlt (Nat.not_lt_zero _)
   ·exact ⟨a, h⟩
  have hz := List.getElem?_eq_getElem hlt
  have hzs := HSZ.out _ (List.getElem_mem hlt)
  generalize ss[m]'hlt = z at hz hzs
  have hcm := strs_at HR.out.strs hz
  have HJ := Lib.hid (show (ss.map ruleOf)[m]? = some (ruleOf z) by rw [List.getElem?_map, hz]; rfl)
  have HZS := Lib.hid hzs
  have HLT := Lib.hid hlt
  have hlti : (m : Int) < (ss.length : Int) := by omega
  clear hz hzs hlt hmm
  go_wp2_with fail
  refine (RReadRule_any z HZS.out wr).mono ?_
  rintro e w2 ⟨rfl, hb⟩
  have HB2 := Lib.hid hb
  clear hb hcm
  go_upto_region 6 with fail
  have HNB := Lib.hid (new_below w2 (.cells #[.int .i64 (ruleOf z).sortR, .int .u8 ((ruleOf z).v.toNat : Int), .string (ruleOf z).whatR] 119))
  have HT := Lib.hid (heap_alloc_new w2 (.cells #[.int .i64 (ruleOf z).sortR, .int .u8 ((ruleOf z).v.toNat : Int), .string (ruleOf z).whatR] 119))
  generalize w2.alloc (.cells #[.int .i64 (ruleOf z).sortR, .int .u8 ((ruleOf z).v.toNat : Int), .string (ruleOf z).whatR] 119) = W3 at HNB HT ⊢
  generalize w2.heap.size = D at HT ⊢
  have HB3 := Lib.hid (HB2.out.trans (HNB.out.mono HB2.out.size))
  have HG3 := Lib.hid (grown_tr HR.out.grown (grown_below HB3.out))
  have HM3 := Lib.hid (MapS.below HR.out.map HB3.out)
  have HF3 := Lib.hid HR.out.fine
  have HS3 := Lib.hid (HR.out.strs.below HB3.out)
  have HL3 := Lib.hid (HR.out.types.below HB3.out)
  have HSO := Lib.hid (HR.out.so.trans (num_at HJ.out p F'))
  have HMC := Lib.hid (show c + m < 4611686018427387904 by have := HC.out; have := HLT.out; have := HSS.out; omega)
  clear HB2 HNB HB3 HR
  by_cases hone : (ruleOf z).plainN = true
  ·replace HSO := Lib.hid (HSO.out.trans (plain_num hone l _ p F'))
   obtain ⟨s7, s8, s6, s2⟩ := plain_sort hone
   clear hone
   generalize ruleOf z = r at HT HSO s7 s8 s6 s2
   generalize r.sortR = sr at HT s7 s8 s6 s2
   obtain ⟨c0, c1, c2, cf⟩ := cells3 HT.out
   go_wp2_with fail
   go_roundw
   case rel => exact ⟨m + 1, p + 1, F', HLT.out, by have := HPM.out; omega, by go_num, by go_num, HG3.out, MapS.mono HM3.out (by omega), HF3.out, HSO.out, HS3.out, HL3.out⟩
   case measure => have := HLT.out; simp only [intOf]; omega
  cases hr : ruleOf z with
  | bad => exact absurd (by rw [hr]; rfl) hone
  | fixed q => exact absurd (by rw [hr]; rfl) hone
  | same v => exact absurd (by rw [hr]; rfl) hone
  | elem v => exact absurd (by rw [hr]; rfl) hone
  | turn v => exact absurd (by rw [hr]; rfl) hone
  | anys =>
   have T3 := Lib.hid (show W3.heap[D]? = some (.cells #[.int .i64 7, .int .u8 0, .string ⟨#[]⟩] 119 (0, 0)) by have := HT.out; rw [hr] at this; exact this)
   rw [hr] at HSO
   clear HT hr hone
   obtain ⟨c0, c1, c2, cf⟩ := cells3 T3.out
   by_cases hle : p ≤ l.length
   ·have hq : (p : Int) ≤ (l.length : Int) := by omega
    have HQ := Lib.hid (HSO.out.trans (show _ = (F', true) by rw [numL, decide_eq_true hle]))
    clear hle
    go_wp2_with fail
    go_ret
    exact NumP.of HG3.out HM3.out (Nat.le_of_lt HLT.out) HF3.out HQ.out
   ·have hq : ¬ (p : Int) ≤ (l.length : Int) := by omega
    have HQ := Lib.hid (HSO.out.trans (show _ = (F', false) by rw [numL, decide_eq_false hle]))
    clear hle
    go_wp2_with fail
    go_ret
    exact NumP.of HG3.out HM3.out (Nat.le_of_lt HLT.out) HF3.out HQ.out
  | nums =>
   have T3 := Lib.hid (show W3.heap[D]? = some (.cells #[.int .i64 8, .int .u8 0, .string ⟨#[]⟩] 119 (0, 0)) by have := HT.out; rw [hr] at this; exact this)
   rw [hr] at HSO
   clear HT hr hone
   obtain ⟨c0, c1, c2, cf⟩ := cells3 T3.out
   by_cases hle : p ≤ l.length
   ·have hq : (p : Int) ≤ (l.length : Int) := by omega
    have HQ := Lib.hid (HSO.out.trans (show _ = (F', true) by rw [numL, decide_eq_true hle]))
    clear hle
    go_wp2_with fail
    go_ret
    exact NumP.of HG3.out HM3.out (Nat.le_of_lt HLT.out) HF3.out HQ.out
   ·have hq : ¬ (p : Int) ≤ (l.length : Int) := by omega
    have HQ := Lib.hid (HSO.out.trans (show _ = (F', false) by rw [numL, decide_eq_false hle]))
    clear hle
    go_wp2_with fail
    go_ret
    exact NumP.of HG3.out HM3.out (Nat.le_of_lt HLT.out) HF3.out HQ.out
  | index v =>
   have T3 := Lib.hid (show W3.heap[D]? = some (.cells #[.int .i64 6, .int .u8 (v.toNat : Int), .string ⟨#[]⟩] 119 (0, 0)) by have := HT.out; rw [hr] at this; exact this)
   rw [hr] at HSO
   clear HT hr hone
   obtain ⟨c0, c1, c2, cf⟩ := cells3 T3.out
   have hlk := RMap.get HM3.out v
   have HRT := Lib.hid (ReadT_any (vS F' v) (HF3.out.at v) W3)
   have HRK := Lib.hid (rank_le (vS F' v))
   have HSN := Lib.hid (HSO.out.trans (show numL l (.index v :: (ss.map ruleOf).drop (m + 1)) p F' = numL l ((ss.map ruleOf).drop (m + 1)) (p + rankS (vS F' v)) F' from rfl))
   clear HSO
   generalize vS F' v = x at hlk HRT HRK HSN
   go_wp2_with fail
   clear hlk
   refine HRT.out.mono ?_
   rintro e w4 ⟨hb, K, b, es, el, ao1, cc, ok, rfl, -, hrk, -, -, hsh, -⟩
   have HB4 := Lib.hid hb
   have HRE := Lib.hid hrk
   have HSH := Lib.hid hsh
   clear hb hrk hsh HRT c0 c1 c2 cf
   have T4 := Lib.hid (heap_alloc_new w4 (.cells #[.int .i64 K, .int .i64 b, .slice ao1 es.length cc, .string el] 165))
   have N4 := Lib.hid (new_below w4 (.cells #[.int .i64 K, .int .i64 b, .slice ao1 es.length cc, .string el] 165))
   have hei : (es.length : Int) ≤ 3 := by have := HRK.out; have := HRE.out; omega
   go_upto_region 12 with fail
   generalize w4.alloc (.cells #[.int .i64 K, .int .i64 b, .slice ao1 es.length cc, .string el] 165) = W5 at T4 N4 ⊢
   generalize w4.heap.size = D4 at T4 ⊢
   have HB5 := Lib.hid (HB4.out.trans (N4.out.mono HB4.out.size))
   obtain ⟨t0, t1, t2, t3, tf⟩ := cells4 T4.out
   go_wp2_with fail
   refine (Shaped_ref K b ao1 es.length cc el W5).mono ?_
   rintro e w6 ⟨rfl, hb⟩
   have HB6 := Lib.hid (HB5.out.trans (hb.mono HB5.out.size))
   have T6 := Lib.hid ((hb.block _ (lt_of_block T4.out)).trans T4.out)
   clear hb t0 t1 t2 t3 tf
   have HG6 := Lib.hid (grown_tr HG3.out (grown_below HB6.out))
   have HM6 := Lib.hid (MapS.below HM3.out HB6.out)
   have HS6 := Lib.hid (HS3.out.below HB6.out)
   have HL6 := Lib.hid (HL3.out.below HB6.out)
   obtain ⟨t0, t1, t2, t3, tf⟩ := cells4 T6.out
   cases hk : (K == 2 || K == 3)
   ·have HR0 := Lib.hid (show rankS x = 0 by
     rcases HSH.out with h | h
     ·rcases h with rfl | rfl <;> cases hk
     ·exact h)
    clear hk
    go_wp2_with fail
    go_roundw
    case rel => exact ⟨m + 1, p, F', HLT.out, by have := HPM.out; omega, rfl, by go_num, HG6.out, MapS.mono HM6.out (by omega), HF3.out, by rw [HSN.out, HR0.out]; rfl, HS6.out, HL6.out⟩
    case measure => have := HLT.out; simp only [intOf]; omega
   ·clear hk
    go_wp2_with fail
    go_roundw
    case rel => exact ⟨m + 1, p + es.length, F', HLT.out, by have := HPM.out; have := HRK.out; have := HRE.out; omega, by go_num, by go_num, HG6.out, MapS.mono HM6.out (by omega), HF3.out, by rw [HSN.out, HRE.out], HS6.out, HL6.out⟩
    case measure => have := HLT.out; simp only [intOf]; omega
  | bind v k =>
   have T3 := Lib.hid (show W3.heap[D]? = some (.cells #[.int .i64 2, .int .u8 (v.toNat : Int), .string k.str] 119 (0, 0)) by have := HT.out; rw [hr] at this; exact this)
   rw [hr] at HSO
   clear HT hr hone
   obtain ⟨c0, c1, c2, cf⟩ := cells3 T3.out
   by_cases hlt : p < l.length
   rotate_left
   ·have hge : ¬ (p : Int) < (l.length : Int) := by omega
    have HSN := Lib.hid (HSO.out.trans (show numL l (.bind v k :: (ss.map ruleOf).drop (m + 1)) p F' = numL l ((ss.map ruleOf).drop (m + 1)) (p + 1) F' by rw [numL, if_neg hlt]))
    clear hlt HSO
    go_wp2_with fail
    go_roundw
    case rel => exact ⟨m + 1, p + 1, F', HLT.out, by have := HPM.out; omega, by go_num, by go_num, HG3.out, MapS.mono HM3.out (by omega), HF3.out, HSN.out, HS3.out, HL3.out⟩
    case measure => have := HLT.out; simp only [intOf]; omega
   have hpl : (p : Int) < (l.length : Int) := by omega
   have hjs := List.getElem?_eq_getElem hlt
   have HTS := Lib.hid (HZ.out _ (List.getElem_mem hlt))
   generalize l[p]'hlt = t at hjs HTS
   have HSN := Lib.hid (HSO.out.trans (show numL l (.bind v k :: (ss.map ruleOf).drop (m + 1)) p F' = numL l ((ss.map ruleOf).drop (m + 1)) (p + 1) (setAt F' (v.toNat : Int) t) by rw [numL, if_pos hlt, hjs]; rfl))
   obtain ⟨a', rfl⟩ : ∃ a', la = some a' := by
    rcases HL3.out with h0 | ⟨a', h, _⟩
    ·rw [h0] at hlt; exact absurd hlt (Nat.not_lt_zero _)
    ·exact ⟨a', h⟩
   have HCL := Lib.hid (strs_at HL3.out hjs)
   clear hjs hlt HSO
   go_upto_region 16 with fail
   clear c0 c1 c2 cf
   refine wp_region_held_drew (S := fun w' => Hid (Keeps W3 w')) (by kernel_rfl) (fun _ _ h => h) (fun hHeld => ?_)
   have HMV := Lib.hid (MapS.below HM3.out (Below.refl W3.heap.size W3).drew)
   have HGV := Lib.hid (show w.grownBy W3.drew (some mb) from grown_tr HG3.out (grown_below (Below.refl W3.heap.size W3).drew))
   have HSV := Lib.hid (show StrsAt W3.drew (some a) ss from HS3.out.below (Below.refl W3.heap.size W3).drew)
   have HLV := Lib.hid (show StrsAt W3.drew (some a') l from HL3.out.below (Below.refl W3.heap.size W3).drew)
   have HC1 := Lib.hid (fun (X : World) (h : Hid (Keeps W3 X)) => (show X.cell? ⟨D, 1, none⟩ = some (.int .u8 (v.toNat : Int)) from h.out _ _ (cells3 T3.out).2.1))
   have HC3 := Lib.hid (fun (X : World) (h : Hid (Keeps W3 X)) => (show X.cell? (a'.add p) = some (.string t) from h.out _ _ HCL.out))
   generalize W3.drew = V0 at hHeld HMV HGV HSV HLV ⊢
   obtain ⟨w5, hru, hmp, hgr⟩ := MapS.put (T := 115) HMV.out Tryz.underlying115 Tryz.underlying5 Tryz.underlying9 HMC.out (u8_key v) (show t.size ≤ maxLen from HTS.out)
   obtain ⟨ob5, ho1, ho2⟩ := MapS.obj HMV.out
   have HK5 := Lib.hid (grown_keeps hgr ho1 ho2)
   have HS5 := Lib.hid (strs_grown HSV.out hgr ho1 ho2)
   have HL5 := Lib.hid (strs_grown HLV.out hgr ho1 ho2)
   have HM5 := Lib.hid hmp
   have HG5 := Lib.hid (grown_tr HGV.out hgr)
   have HRU := Lib.hid hru
   clear hmp hgr ho1 ho2 hru
   refine wpAnyH_take (i := 0) (v := .map (some mb)) rfl (by kernel_rfl) (by kernel_rfl) (by kernel_rfl) (fun _ _ _ h => h) (Or.inl ⟨by rfl, ?_⟩) hHeld ?_
   ·intro w9 hSw
    go_simp
   simp only [Act.put, sA, sC, sD, sE, sF]
   refine wpAnyH_take (i := 1) (v := .pointer (some ⟨D, 1, none⟩)) rfl (by kernel_rfl) (by kernel_rfl) (by kernel_rfl) (fun _ _ _ h => h) (Or.inl ⟨by rfl, ?_⟩) hHeld ?_
   ·intro w9 hSw
    go_simp
   simp only [Act.put, sA, sB, sC, sD, sE, sF]
   refine wpAnyH_take (i := 2) (v := .int .u8 (v.toNat : Int)) rfl (by kernel_rfl) (by kernel_rfl) (by kernel_rfl) (fun _ _ _ h => h) (Or.inl ⟨by rfl, ?_⟩) hHeld ?_
   ·intro w9 hSw
    have hcc := HC1.out w9 hSw
    go_simp
   simp only [Act.put, sA, sB, sC, sD, sE, sF]
   refine wpAnyH_take (i := 3) (v := .slice (some a') l.length lc) rfl (by kernel_rfl) (by kernel_rfl) (by kernel_rfl) (fun _ _ _ h => h) (Or.inl ⟨by rfl, ?_⟩) hHeld ?_
   ·intro w9 hSw
    go_simp
   simp only [Act.put, sA, sB, sC, sD, sE, sF]
   refine wpAnyH_take (i := 4) (v := .int .i64 (p : Int)) rfl (by kernel_rfl) (by kernel_rfl) (by kernel_rfl) (fun _ _ _ h => h) (Or.inl ⟨by rfl, ?_⟩) hHeld ?_
   ·intro w9 hSw
    go_simp
   simp only [Act.put, sA, sB, sC, sD, sE, sF]
   refine wpAnyH_take (i := 5) (v := .pointer (some (a'.add p))) rfl (by kernel_rfl) (by kernel_rfl) (by kernel_rfl) (fun _ _ _ h => h) (Or.inl ⟨by rfl, ?_⟩) hHeld ?_
   ·intro w9 hSw
    go_simp
   simp only [Act.put, sA, sB, sC, sD, sE, sF]
   refine wpAnyH_take (i := 6) (v := .string t) rfl (by kernel_rfl) (by kernel_rfl) (by kernel_rfl) (fun _ _ _ h => h) (Or.inl ⟨by rfl, ?_⟩) hHeld ?_
   ·intro w9 hSw
    have hcc := HC3.out w9 hSw
    go_simp
   simp only [Act.put, sA, sB, sC, sD, sE, sF]
   refine wpAnyH_ready (rs := [7]) (by kernel_rfl) (by simp) ?_
   refine AllReadyH.cons rfl (fun K hK => ?_) AllReadyH.nil
   have hru := HRU.out
   go_simp
   refine hK.out _ _ (show Hid (Keeps W3 w5) from hHeld.out.trans HK5.out) (fun hEnd => ?_)
   clear hK K hru
   try simp only [Act.put, sA, sB, sC, sD, sE, sF]
   refine wpAnyH_done (by kernel_rfl) ?_ _
   clear hHeld hEnd HC1 HC3 HRU HK5 HSV HLV HMV HGV
   go_wp2_with fail
   go_roundw
   case rel => exact ⟨m + 1, p + 1, _, HLT.out, by have := HPM.out; omega, by go_num, by go_num, HG5.out, HM5.out, HF3.out.set _ HTS.out, HSN.out, HS5.out, HL5.out⟩
   case measure => have := HLT.out; simp only [intOf]; omega
end Go.Proofs.YtgimdkgjfenafaaGreatDoor
namespace Go.Proofs.YtgimdkgjfenafaaGreatDoor
open Go.RowKit
def cntL (G : Bnd) (l : List ByteArray) : List Rule → Nat → Bool
 | [], p => decide (l.length = p)
 | .anys :: _, p => decide (p ≤ l.length)
 | .nums :: _, p => decide (p ≤ l.length)
 | .index v :: rs, p => cntL G l rs (p + rankS (vS G v))
 | _ :: rs, p => cntL G l rs (p + 1)
theorem num_cnt (l : List ByteArray) : ∀ (rs : List Rule) (B : UInt8 → Bool) (p : Nat) (F : Bnd), okR B rs = true → (numL l rs p F).2 = cntL (numL l rs p F).1 l rs p := by
 intro rs
 induction rs with
 | nil => intro B p F _; rfl
 | cons r rs ih =>
  intro B p F h
  cases r with
  | bad => cases h
  | anys => rfl
  | nums => rfl
  | fixed t => exact ih B _ _ h
  | bind v c => unfold okR at h; rw [Bool.and_eq_true] at h; exact ih _ _ _ h.2
  | same v => unfold okR at h; rw [Bool.and_eq_true] at h; exact ih B _ _ h.2
  | elem v => unfold okR at h; rw [Bool.and_eq_true] at h; exact ih B _ _ h.2
  | turn v => unfold okR at h; rw [Bool.and_eq_true] at h; exact ih B _ _ h.2
  | index v =>
   unfold okR at h
   rw [Bool.and_eq_true] at h
   have hv : vS (numL l rs (p + rankS (vS F v)) F).1 v = vS F v := by unfold vS; rw [num_bound l rs B _ F v h.2 h.1]
   show (numL l rs (p + rankS (vS F v)) F).2 = cntL (numL l rs (p + rankS (vS F v)) F).1 l rs (p + rankS (vS (numL l rs (p + rankS (vS F v)) F).1 v))
   rw [hv]
   exact ih B _ _ h.2
theorem cnt_le (G : Bnd) (l : List ByteArray) : ∀ (rs : List Rule) (p : Nat), cntL G l rs p = true → p ≤ l.length := by
 intro rs
 induction rs with
 | nil => intro p h; have := of_decide_eq_true h; omega
 | cons r rs ih =>
  intro p h
  cases r with
  | anys => exact of_decide_eq_true h
  | nums => exact of_decide_eq_true h
  | index v => have := ih _ h; omega
  | _ => have := ih _ h; omega
theorem ok_nobad : ∀ (rs : List Rule) (B : UInt8 → Bool), okR B rs = true → ∀ r ∈ rs, r ≠ .bad := by
 intro rs
 induction rs with
 | nil => intro B _ r hr; cases hr
 | cons a rs ih =>
  intro B h r hr
  cases a with
  | bad => cases h
  | anys => obtain rfl : rs = [] := List.isEmpty_iff.1 h; rcases List.mem_cons.1 hr with rfl | h; exact Rule.noConfusion; cases h
  | nums => obtain rfl : rs = [] := List.isEmpty_iff.1 h; rcases List.mem_cons.1 hr with rfl | h; exact Rule.noConfusion; cases h
  | fixed t => rcases List.mem_cons.1 hr with rfl | hr; exact Rule.noConfusion; exact ih B h r hr
  | bind v c => unfold okR at h; rw [Bool.and_eq_true] at h; rcases List.mem_cons.1 hr with rfl | hr; exact Rule.noConfusion; exact ih _ h.2 r hr
  | same v => unfold okR at h; rw [Bool.and_eq_true] at h; rcases List.mem_cons.1 hr with rfl | hr; exact Rule.noConfusion; exact ih _ h.2 r hr
  | elem v => unfold okR at h; rw [Bool.and_eq_true] at h; rcases List.mem_cons.1 hr with rfl | hr; exact Rule.noConfusion; exact ih _ h.2 r hr
  | turn v => unfold okR at h; rw [Bool.and_eq_true] at h; rcases List.mem_cons.1 hr with rfl | hr; exact Rule.noConfusion; exact ih _ h.2 r hr
  | index v => unfold okR at h; rw [Bool.and_eq_true] at h; rcases List.mem_cons.1 hr with rfl | hr; exact Rule.noConfusion; exact ih _ h.2 r hr
theorem drop_cons {rs : List Rule} {m : Nat} {r : Rule} (h : rs[m]? = some r) : rs.drop m = r :: rs.drop (m + 1) := by
 obtain ⟨hl, hv⟩ := List.getElem?_eq_some_iff.1 h
 rw [List.drop_eq_getElem_cons hl, hv]
structure KeS (rs : List Rule) (l : List ByteArray) (F : Bnd) (w : World) (m p : Nat) (wr : World) : Prop where
 below : Below w.heap.size w wr
 so : keptL F l rs 0 = keptL F l (rs.drop m) p
 cnt : cntL F l (rs.drop m) p = true
theorem all_take {l : List ByteArray} {p k : Nat} {t : ByteArray} (P : ByteArray → Bool) (h : l[p + k]? = some t) : ((l.drop p).take (k + 1)).all P = (((l.drop p).take k).all P && P t) := by
 rw [List.take_add_one, List.getElem?_drop, h, List.all_append]
 simp
theorem all_bad {l : List ByteArray} {p k n : Nat} {t : ByteArray} (P : ByteArray → Bool) (h : l[p + k]? = some t) (hk : k < n) (ht : P t = false) : ((l.drop p).take n).all P = false :=
 List.all_eq_false.2 ⟨t, List.mem_of_getElem? (i := k) (by rw [List.getElem?_take_of_lt hk, List.getElem?_drop]; exact h), by rw [ht]; decide⟩
theorem one_cnt {r : Rule} (h : r.one = true) (G : Bnd) (l : List ByteArray) (rs : List Rule) (p : Nat) : cntL G l (r :: rs) p = cntL G l rs (p + 1) := by cases r <;> first | rfl | cases h
theorem one_kept {r : Rule} (h : r.one = true) (G : Bnd) (l : List ByteArray) (rs : List Rule) (p : Nat) : keptL G l (r :: rs) p = (r.fits G (l[p]?.getD ByteArray.empty) && keptL G l rs (p + 1)) := by cases r <;> first | rfl | cases h
theorem one_fits {r : Rule} (h : r.one = true) (G : Bnd) (t : ByteArray) : r.fits G t = ((onlyL G r).toList == t.toList) := by
 have e : r.fits G t = (t.data.toList == (onlyL G r).data.toList) := by cases r <;> first | rfl | cases h
 rw [e, ByteArray.toList_eq, ByteArray.toList_eq, Bool.eq_iff_iff, beq_iff_eq, beq_iff_eq]
 exact ⟨Eq.symm, Eq.symm⟩
theorem one_sort {r : Rule} (h : r.one = true) : (r.sortR == 7) = false ∧ (r.sortR == 8) = false ∧ (r.sortR == 6) = false ∧ (r.sortR == 2) = false := by cases r <;> first | exact ⟨rfl, rfl, rfl, rfl⟩ | cases h
set_option maxHeartbeats 32000000 in
set_option maxRecDepth 100000 in
theorem RKept_any (ao : Option Addr) (ss : List ByteArray) (c0 : Nat) (hss : ss.length ≤ 10) (hsz : ∀ s ∈ ss, s.size ≤ 9223372036854775807) (hnb : ∀ r ∈ ss.map ruleOf, r ≠ .bad) (la : Option Addr) (l : List ByteArray) (lc : Nat) (hl : l.length ≤ 1048576) (hz : ∀ t ∈ l, t.size ≤ 9223372036854775807) (hT : ∀ t ∈ l, isT t = true) (mb c : Nat) (F : Bnd) (hF : Fine F) (hcnt : cntL F l (ss.map ruleOf) 0 = true) (w : World) (hs : StrsAt w ao ss) (hL : StrsAt w la l) (hm : RMap w mb c F) :
  Calls Tryz.prog 55 #[.slice ao ss.length c0, .slice la l.length lc, .map (some mb)] w fun e w' => e = .returned (.bool (keptL F l (ss.map ruleOf) 0)) ∧ Below w.heap.size w w' := by
 have HS := Lib.hid hs
 have HL := Lib.hid hL
 have HM := Lib.hid hm
 have HF := Lib.hid hF
 have HSZ := Lib.hid hsz
 have HZ := Lib.hid hz
 have HTY := Lib.hid hT
 have HNB0 := Lib.hid hnb
 have HCN := Lib.hid hcnt
 have hssi : (ss.length : Int) ≤ 10 := by omega
 have hli : (l.length : Int) ≤ 1048576 := by omega
 clear hs hL hm hF hsz hz hT hnb hcnt hss hl
 go_enter Tryz.func55, Tryz.ntmps55
 go_wp2_with fail
 go_loopw [7, 8] (fun pv iv wr => ∃ (m p : Nat), m ≤ ss.length ∧ pv = .int .i64 p ∧ iv = .int .i64 m ∧ Hid (KeS (ss.map ruleOf) l F w m p wr)) (fun _ iv _ => ss.length - (intOf iv).toNat)
 case atStart => exact ⟨0, 0, Nat.zero_le _, rfl, rfl, ⟨Below.refl _ _, rfl, HCN.out⟩⟩
 case round =>
  obtain ⟨m, p, hmm, rfl, rfl, HR⟩ := hrel
  have hpli : (p : Int) ≤ (l.length : Int) := by have := cnt_le _ _ _ _ HR.out.cnt; omega
  by_cases hlt : m < ss.length
  rotate_left
  ·have hge : ¬ (m : Int) < (ss.length : Int) := by omega
   have HSO := Lib.hid (show keptL F l (ss.map ruleOf) 0 = true by rw [HR.out.so, List.drop_eq_nil_of_le (by rw [List.length_map]; omega)]; rfl)
   clear hlt hmm
   go_wp2_with fail
   go_ret
   exact ⟨by rw [HSO.out]; rfl, HR.out.below⟩
  obtain ⟨a, rfl⟩ : ∃ a, ao = some a := by
   rcases HS.out with h0 | ⟨a, h, _⟩
   ·rw [h0] at hlt; exact absurd hlt (Nat.not_lt_zero _)
   ·exact ⟨a, h⟩
  have hz := List.getElem?_eq_getElem hlt
  have hzs := HSZ.out _ (List.getElem_mem hlt)
  generalize ss[m]'hlt = z at hz hzs
  have hcm := strs_at (HS.out.below HR.out.below) hz
  have HJ := Lib.hid (show (ss.map ruleOf)[m]? = some (ruleOf z) by rw [List.getElem?_map, hz]; rfl)
  have HZS := Lib.hid hzs
  have HLT := Lib.hid hlt
  have hlti : (m : Int) < (ss.length : Int) := by omega
  clear hz hzs hlt hmm
  go_wp2_with fail
  refine (RReadRule_any z HZS.out wr).mono ?_
  rintro e w2 ⟨rfl, hb⟩
  have HB2 := Lib.hid hb
  clear hb hcm
  go_upto_region 6 with fail
  have HNB := Lib.hid (new_below w2 (.cells #[.int .i64 (ruleOf z).sortR, .int .u8 ((ruleOf z).v.toNat : Int), .string (ruleOf z).whatR] 119))
  have HT := Lib.hid (heap_alloc_new w2 (.cells #[.int .i64 (ruleOf z).sortR, .int .u8 ((ruleOf z).v.toNat : Int), .string (ruleOf z).whatR] 119))
  generalize w2.alloc (.cells #[.int .i64 (ruleOf z).sortR, .int .u8 ((ruleOf z).v.toNat : Int), .string (ruleOf z).whatR] 119) = W3 at HNB HT ⊢
  generalize w2.heap.size = D at HT ⊢
  have HB3 := Lib.hid (HR.out.below.trans ((HB2.out.trans (HNB.out.mono HB2.out.size)).mono HR.out.below.size))
  have HSO := Lib.hid (HR.out.so.trans (by rw [drop_cons HJ.out]))
  have HCT := Lib.hid (show cntL F l (ruleOf z :: (ss.map ruleOf).drop (m + 1)) p = true by rw [← drop_cons HJ.out]; exact HR.out.cnt)
  have HL3 := Lib.hid (HL.out.below HB3.out)
  have HM3 := Lib.hid (MapS.below HM.out HB3.out)
  clear HB2 HNB HR
  by_cases hone : (ruleOf z).one = true
  ·skip
   replace HCT := Lib.hid (one_cnt hone F l _ p ▸ HCT.out)
   have HCN2 := HCT
   replace HSO := Lib.hid (HSO.out.trans (one_kept hone F l _ p))
   have HCI0 := Lib.hid (fun (X : World) (hX : RMap X mb c F) => RStands_any _ hone mb c F HF.out X hX)
   have HFT0 := Lib.hid (one_fits hone F)
   obtain ⟨s7, s8, s6, s2⟩ := one_sort hone
   clear hone
   generalize ruleOf z = r at HT HSO HCI0 HFT0 s7 s8 s6 s2
   generalize r.sortR = sr at HT HCI0 s7 s8 s6 s2
   generalize (r.v.toNat : Int) = vr at HT HCI0
   generalize r.whatR = wr2 at HT HCI0
   have T3 := HT
   clear HT HCT
   obtain ⟨c0, c1, c2, cf⟩ := cells3 T3.out
   have hlt : p < l.length := by have := cnt_le _ _ _ _ HCN2.out; omega
   have hpl : (p : Int) < (l.length : Int) := by omega
   have hjs := List.getElem?_eq_getElem hlt
   have HTS := Lib.hid (HZ.out _ (List.getElem_mem hlt))
   have HTT := Lib.hid (HTY.out _ (List.getElem_mem hlt))
   generalize l[p]'hlt = t at hjs HTS HTT
   obtain ⟨a', rfl⟩ : ∃ a', la = some a' := by
    rcases HL3.out with h0 | ⟨a', h, _⟩
    ·rw [h0] at hlt; exact absurd hlt (Nat.not_lt_zero _)
    ·exact ⟨a', h⟩
   have HCL := Lib.hid (strs_at HL3.out hjs)
   have HGT := Lib.hid (show l[p]?.getD ByteArray.empty = t by rw [hjs]; rfl)
   clear hjs hlt
   have HFT := Lib.hid (HFT0.out t)
   rw [HGT.out] at HSO
   generalize onlyL F r = z2 at HCI0 HFT
   generalize r.fits F t = ft at HFT HSO
   clear HFT0
   go_upto_region 7 with fail
   clear c0 c1 c2 cf
   refine wp_region_held_drew (S := fun w' => Hid (Keeps W3 w')) (by kernel_rfl) (fun _ _ h => h) (fun hHeld => ?_)
   have HBV := Lib.hid (HB3.out.drew)
   have HMV := Lib.hid (MapS.below HM3.out (Below.refl W3.heap.size W3).drew)
   have HC0 := Lib.hid (fun (X : World) (h : Hid (Keeps W3 X)) => (show X.cell? ⟨D, 0, none⟩ = some (.int .i64 sr) from h.out _ _ (cells3 T3.out).1))
   have HC1 := Lib.hid (fun (X : World) (h : Hid (Keeps W3 X)) => (show X.cell? ⟨D, 1, none⟩ = some (.int .u8 vr) from h.out _ _ (cells3 T3.out).2.1))
   have HC2 := Lib.hid (fun (X : World) (h : Hid (Keeps W3 X)) => (show X.cell? ⟨D, 2, none⟩ = some (.string wr2) from h.out _ _ (cells3 T3.out).2.2.1))
   have HC3 := Lib.hid (fun (X : World) (h : Hid (Keeps W3 X)) => (show X.cell? (a'.add p) = some (.string t) from h.out _ _ HCL.out))
   generalize W3.drew = V0 at hHeld HBV HMV ⊢
   have HCI := Lib.hid (HCI0.out V0 HMV.out)
   clear HCI0
   refine wpAnyH_take (i := 0) (v := .agg #[.int .i64 sr, .int .u8 vr, .string wr2]) rfl (by kernel_rfl) (by kernel_rfl) (by kernel_rfl) (fun _ _ _ h => h) (Or.inl ⟨by rfl, ?_⟩) hHeld ?_
   ·intro w9 hSw
    have hhc0 := HC0.out w9 hSw
    have hhc1 := HC1.out w9 hSw
    have hhc2 := HC2.out w9 hSw
    go_simp
   simp only [Act.put, sA, sC, sD, sE, sF]
   refine wpAnyH_take (i := 1) (v := .map (some mb)) rfl (by kernel_rfl) (by kernel_rfl) (by kernel_rfl) (fun _ _ _ h => h) (Or.inl ⟨by rfl, ?_⟩) hHeld ?_
   ·intro w9 hSw
    go_simp
   simp only [Act.put, sA, sB, sC, sD, sE, sF]
   refine wpAnyH_take (i := 3) (v := .slice (some a') l.length lc) rfl (by kernel_rfl) (by kernel_rfl) (by kernel_rfl) (fun _ _ _ h => h) (Or.inl ⟨by rfl, ?_⟩) hHeld ?_
   ·intro w9 hSw
    go_simp
   simp only [Act.put, sA, sB, sC, sD, sE, sF]
   refine wpAnyH_take (i := 4) (v := .int .i64 (p : Int)) rfl (by kernel_rfl) (by kernel_rfl) (by kernel_rfl) (fun _ _ _ h => h) (Or.inl ⟨by rfl, ?_⟩) hHeld ?_
   ·intro w9 hSw
    go_simp
   simp only [Act.put, sA, sB, sC, sD, sE, sF]
   refine wpAnyH_take (i := 5) (v := .pointer (some (a'.add p))) rfl (by kernel_rfl) (by kernel_rfl) (by kernel_rfl) (fun _ _ _ h => h) (Or.inl ⟨by rfl, ?_⟩) hHeld ?_
   ·intro w9 hSw
    go_simp
   simp only [Act.put, sA, sB, sC, sD, sE, sF]
   refine wpAnyH_take (i := 6) (v := .string t) rfl (by kernel_rfl) (by kernel_rfl) (by kernel_rfl) (fun _ _ _ h => h) (Or.inl ⟨by rfl, ?_⟩) hHeld ?_
   ·intro w9 hSw
    have hhc3 := HC3.out w9 hSw
    go_simp
   simp only [Act.put, sA, sB, sC, sD, sE, sF]
   refine wpAnyH_ready (rs := [2]) (by kernel_rfl) (by simp) ?_
   refine AllReadyH.cons rfl (fun K hK => ?_) AllReadyH.nil
   go_simp
   go_at_call 57
   with_reducible refine HCI.out.mono ?_
   rintro e w4 ⟨rfl, hb⟩
   try dsimp only
   have HB4 := Lib.hid (HBV.out.trans (hb.mono HBV.out.size))
   refine hK.out _ _ (show Hid (Keeps W3 w4) from hHeld.out.trans (Keeps.of_below hb)) (fun hEnd => ?_)
   clear hK K hb hHeld HCI HBV HMV HC0 HC1 HC2 HC3
   have hHeld := hEnd
   clear hEnd
   try simp only [Act.put, sA, sB, sC, sD, sE, sF]
   cases hof : (z2.toList == t.toList)
   ·have HOF := Lib.hid (HFT.out.trans hof)
    refine wpAnyH_take (i := 7) (v := .bool true) rfl (by kernel_rfl) (by kernel_rfl) (by kernel_rfl) (fun _ _ _ h => h) (Or.inl ⟨by rfl, ?_⟩) hHeld ?_
    ·intro w9 hSw
     go_simp
    simp only [Act.put, sA, sB, sC, sD, sE, sF]
    refine wpAnyH_done (by kernel_rfl) ?_ _
    clear hof
    have HX := Lib.hid (HSO.out.trans (show _ = false by rw [HOF.out]; rfl))
    go_wp2_with fail
    go_ret
    exact ⟨by rw [HX.out]; rfl, HB4.out⟩
   ·have HOF := Lib.hid (HFT.out.trans hof)
    refine wpAnyH_take (i := 7) (v := .bool false) rfl (by kernel_rfl) (by kernel_rfl) (by kernel_rfl) (fun _ _ _ h => h) (Or.inl ⟨by rfl, ?_⟩) hHeld ?_
    ·intro w9 hSw
     go_simp
    simp only [Act.put, sA, sB, sC, sD, sE, sF]
    refine wpAnyH_done (by kernel_rfl) ?_ _
    clear hof
    have HX := Lib.hid (HSO.out.trans (show _ = keptL F l ((ss.map ruleOf).drop (m + 1)) (p + 1) by rw [HOF.out]; rfl))
    go_wp2_with fail
    go_roundw
    case rel => exact ⟨m + 1, p + 1, HLT.out, by go_num, by go_num, HB4.out, HX.out, HCN2.out⟩
    case measure => have := HLT.out; simp only [intOf]; omega
  cases hr : ruleOf z with
  | bad => exact absurd hr (HNB0.out _ (List.mem_of_getElem? HJ.out))
  | fixed q => exact absurd (by rw [hr]; rfl) hone
  | same v => exact absurd (by rw [hr]; rfl) hone
  | elem v => exact absurd (by rw [hr]; rfl) hone
  | turn v => exact absurd (by rw [hr]; rfl) hone
  | bind v k =>
   have T3 := Lib.hid (show W3.heap[D]? = some (.cells #[.int .i64 2, .int .u8 (v.toNat : Int), .string k.str] 119 (0, 0)) by have := HT.out; rw [hr] at this; exact this)
   rw [hr] at HSO HCT
   clear HT hr hone
   obtain ⟨c0, c1, c2, cf⟩ := cells3 T3.out
   have HCN2 := Lib.hid (show cntL F l ((ss.map ruleOf).drop (m + 1)) (p + 1) = true from HCT.out)
   replace HSO := Lib.hid (HSO.out.trans (show _ = (ofC (l[p]?.getD ByteArray.empty) k && keptL F l ((ss.map ruleOf).drop (m + 1)) (p + 1)) from rfl))
   clear HCT
   have hlt : p < l.length := by have := cnt_le _ _ _ _ HCN2.out; omega
   have hpl : (p : Int) < (l.length : Int) := by omega
   have hjs := List.getElem?_eq_getElem hlt
   have HTS := Lib.hid (HZ.out _ (List.getElem_mem hlt))
   have HTT := Lib.hid (HTY.out _ (List.getElem_mem hlt))
   generalize l[p]'hlt = t at hjs HTS HTT
   obtain ⟨a', rfl⟩ : ∃ a', la = some a' := by
    rcases HL3.out with h0 | ⟨a', h, _⟩
    ·rw [h0] at hlt; exact absurd hlt (Nat.not_lt_zero _)
    ·exact ⟨a', h⟩
   have HCL := Lib.hid (strs_at HL3.out hjs)
   have HGT := Lib.hid (show l[p]?.getD ByteArray.empty = t by rw [hjs]; rfl)
   clear hjs hlt
   rw [HGT.out] at HSO
   have HCI0 := Lib.hid (fun (X : World) => RFitsT_any k t HTT.out HTS.out X)
   generalize ofC t k = ft at HSO HCI0
   generalize k.str = ks at T3 c2 HCI0
   go_upto_region 25 with fail
   clear c0 c1 c2 cf
   refine wp_region_held_drew (S := fun w' => Hid (Keeps W3 w')) (by kernel_rfl) (fun _ _ h => h) (fun hHeld => ?_)
   have HBV := Lib.hid (HB3.out.drew)
   have HMV := Lib.hid (MapS.below HM3.out (Below.refl W3.heap.size W3).drew)
   have HC0 := Lib.hid (fun (X : World) (h : Hid (Keeps W3 X)) => (show X.cell? ⟨D, 0, none⟩ = some (.int .i64 2) from h.out _ _ (cells3 T3.out).1))
   have HC1 := Lib.hid (fun (X : World) (h : Hid (Keeps W3 X)) => (show X.cell? ⟨D, 1, none⟩ = some (.int .u8 (v.toNat : Int)) from h.out _ _ (cells3 T3.out).2.1))
   have HC2 := Lib.hid (fun (X : World) (h : Hid (Keeps W3 X)) => (show X.cell? ⟨D, 2, none⟩ = some (.string ks) from h.out _ _ (cells3 T3.out).2.2.1))
   have HC3 := Lib.hid (fun (X : World) (h : Hid (Keeps W3 X)) => (show X.cell? (a'.add p) = some (.string t) from h.out _ _ HCL.out))
   generalize W3.drew = V0 at hHeld HBV HMV ⊢
   have HCI := Lib.hid (HCI0.out V0)
   clear HCI0
   refine wpAnyH_take (i := 0) (v := .pointer (some ⟨D, 2, none⟩)) rfl (by kernel_rfl) (by kernel_rfl) (by kernel_rfl) (fun _ _ _ h => h) (Or.inl ⟨by rfl, ?_⟩) hHeld ?_
   ·intro w9 hSw
    go_simp
   simp only [Act.put, sA, sC, sD, sE, sF]
   refine wpAnyH_take (i := 1) (v := .string ks) rfl (by kernel_rfl) (by kernel_rfl) (by kernel_rfl) (fun _ _ _ h => h) (Or.inl ⟨by rfl, ?_⟩) hHeld ?_
   ·intro w9 hSw
    have hhc2 := HC2.out w9 hSw
    go_simp
   simp only [Act.put, sA, sB, sC, sD, sE, sF]
   refine wpAnyH_take (i := 2) (v := .slice (some a') l.length lc) rfl (by kernel_rfl) (by kernel_rfl) (by kernel_rfl) (fun _ _ _ h => h) (Or.inl ⟨by rfl, ?_⟩) hHeld ?_
   ·intro w9 hSw
    go_simp
   simp only [Act.put, sA, sB, sC, sD, sE, sF]
   refine wpAnyH_take (i := 3) (v := .int .i64 (p : Int)) rfl (by kernel_rfl) (by kernel_rfl) (by kernel_rfl) (fun _ _ _ h => h) (Or.inl ⟨by rfl, ?_⟩) hHeld ?_
   ·intro w9 hSw
    go_simp
   simp only [Act.put, sA, sB, sC, sD, sE, sF]
   refine wpAnyH_take (i := 4) (v := .pointer (some (a'.add p))) rfl (by kernel_rfl) (by kernel_rfl) (by kernel_rfl) (fun _ _ _ h => h) (Or.inl ⟨by rfl, ?_⟩) hHeld ?_
   ·intro w9 hSw
    go_simp
   simp only [Act.put, sA, sB, sC, sD, sE, sF]
   refine wpAnyH_take (i := 5) (v := .string t) rfl (by kernel_rfl) (by kernel_rfl) (by kernel_rfl) (fun _ _ _ h => h) (Or.inl ⟨by rfl, ?_⟩) hHeld ?_
   ·intro w9 hSw
    have hhc3 := HC3.out w9 hSw
    go_simp
   simp only [Act.put, sA, sB, sC, sD, sE, sF]
   refine wpAnyH_ready (rs := [6]) (by kernel_rfl) (by simp) ?_
   refine AllReadyH.cons rfl (fun K hK => ?_) AllReadyH.nil
   go_simp
   go_at_call 91
   with_reducible refine HCI.out.mono ?_
   rintro e w4 ⟨rfl, hb⟩
   try dsimp only
   have HB4 := Lib.hid (HBV.out.trans (hb.mono HBV.out.size))
   refine hK.out _ _ (show Hid (Keeps W3 w4) from hHeld.out.trans (Keeps.of_below hb)) (fun hEnd => ?_)
   clear hK K hb hHeld HCI HBV HMV HC0 HC1 HC2 HC3
   have hHeld := hEnd
   clear hEnd
   try simp only [Act.put, sA, sB, sC, sD, sE, sF]
   cases ft
   ·skip
    refine wpAnyH_take (i := 7) (v := .bool true) rfl (by kernel_rfl) (by kernel_rfl) (by kernel_rfl) (fun _ _ _ h => h) (Or.inl ⟨by rfl, ?_⟩) hHeld ?_
    ·intro w9 hSw
     go_simp
    simp only [Act.put, sA, sB, sC, sD, sE, sF]
    refine wpAnyH_done (by kernel_rfl) ?_ _
    have HX := Lib.hid (HSO.out.trans (show _ = false from rfl))
    go_wp2_with fail
    go_ret
    exact ⟨by rw [HX.out]; rfl, HB4.out⟩
   ·skip
    refine wpAnyH_take (i := 7) (v := .bool false) rfl (by kernel_rfl) (by kernel_rfl) (by kernel_rfl) (fun _ _ _ h => h) (Or.inl ⟨by rfl, ?_⟩) hHeld ?_
    ·intro w9 hSw
     go_simp
    simp only [Act.put, sA, sB, sC, sD, sE, sF]
    refine wpAnyH_done (by kernel_rfl) ?_ _
    have HX := Lib.hid (HSO.out.trans (show _ = keptL F l ((ss.map ruleOf).drop (m + 1)) (p + 1) from rfl))
    go_wp2_with fail
    go_roundw
    case rel => exact ⟨m + 1, p + 1, HLT.out, by go_num, by go_num, HB4.out, HX.out, HCN2.out⟩
    case measure => have := HLT.out; simp only [intOf]; omega
  | anys =>
   have T3 := Lib.hid (show W3.heap[D]? = some (.cells #[.int .i64 7, .int .u8 0, .string ⟨#[]⟩] 119 (0, 0)) by have := HT.out; rw [hr] at this; exact this)
   rw [hr] at HSO HCT
   clear HT hr hone
   obtain ⟨c0, c1, c2, cf⟩ := cells3 T3.out
   have HX := Lib.hid (HSO.out.trans (show _ = true from rfl))
   clear HSO HCT
   go_wp2_with fail
   clear c0 c1 c2 cf
   go_loopw [7] (fun pv wr => ∃ (q : Nat), q ≤ l.length ∧ pv = .int .i64 q ∧ Hid (Below W3.heap.size W3 wr)) (fun pv _ => l.length - (intOf pv).toNat)
   case atStart => exact ⟨p, by omega, rfl, Below.refl _ _⟩
   case round =>
    obtain ⟨q, hql, rfl, HQ⟩ := hrel
    have T4 := Lib.hid ((HQ.out.block _ (lt_of_block T3.out)).trans T3.out)
    obtain ⟨c0, c1, c2, cf⟩ := cells3 T4.out
    by_cases hlt : q < l.length
    ·have hq : (q : Int) < (l.length : Int) := by omega
     have HQL := Lib.hid hlt
     clear hlt hql
     go_wp2_with fail
     go_roundw
     case rel => exact ⟨q + 1, HQL.out, by go_num, HQ.out⟩
     case measure => have := HQL.out; simp only [intOf]; omega
    ·have hq : ¬ (q : Int) < (l.length : Int) := by omega
     clear hlt hql
     go_wp2_with fail
     go_ret
     exact ⟨by rw [HX.out]; rfl, HB3.out.trans (HQ.out.mono HB3.out.size)⟩
  | nums =>
   have T3 := Lib.hid (show W3.heap[D]? = some (.cells #[.int .i64 8, .int .u8 0, .string ⟨#[]⟩] 119 (0, 0)) by have := HT.out; rw [hr] at this; exact this)
   rw [hr] at HSO HCT
   clear HT hr hone
   obtain ⟨c0, c1, c2, cf⟩ := cells3 T3.out
   replace HSO := Lib.hid (HSO.out.trans (show _ = (l.drop p).all (fun t => ofC t .num) from rfl))
   clear HCT
   go_wp2_with fail
   clear c0 c1 c2 cf
   go_loopw [7] (fun pv wr => ∃ (k : Nat), p + k ≤ l.length ∧ pv = .int .i64 ((p + k : Nat) : Int) ∧ Hid (Below W3.heap.size W3 wr ∧ ((l.drop p).take k).all (fun t => ofC t .num) = true)) (fun pv _ => l.length - (intOf pv).toNat)
   case atStart => exact ⟨0, by omega, rfl, Below.refl _ _, rfl⟩
   case round =>
    obtain ⟨k, hql, rfl, HQ⟩ := hrel
    have T4 := Lib.hid ((HQ.out.1.block _ (lt_of_block T3.out)).trans T3.out)
    obtain ⟨c0, c1, c2, cf⟩ := cells3 T4.out
    by_cases hlt : p + k < l.length
    ·have hq : ((p + k : Nat) : Int) < (l.length : Int) := by omega
     have HQL := Lib.hid hlt
     have hjs := List.getElem?_eq_getElem hlt
     have HTT := Lib.hid (HTY.out _ (List.getElem_mem hlt))
     generalize l[p + k]'hlt = t at hjs HTT
     obtain ⟨a', rfl⟩ : ∃ a', la = some a' := by
      rcases HL3.out with h0 | ⟨a', h, _⟩
      ·rw [h0] at hlt; exact absurd hlt (Nat.not_lt_zero _)
      ·exact ⟨a', h⟩
     have hcl := strs_at (HL3.out.below HQ.out.1) hjs
     have HJS := Lib.hid hjs
     have HPK := Lib.hid (show l.length ≤ 1048576 by omega)
     clear hlt hql hjs
     generalize hpk : p + k = pk at hcl hq HJS HQL ⊢
     have HPQ := Lib.hid hpk
     clear hpk
     go_wp2_with fail
     refine (IsNumber_ref t wr).mono ?_
     rintro e w4 ⟨rfl, rfl⟩
     rw [num_type HTT.out]
     cases hof : ofC t .num
     ·have HX := Lib.hid (show keptL F l (ss.map ruleOf) 0 = false by
       rw [HSO.out]
       exact List.all_eq_false.2 ⟨t, List.mem_of_getElem? (i := k) (by rw [List.getElem?_drop, HPQ.out]; exact HJS.out), by rw [hof]; decide⟩)
      clear hof
      go_wp2_with fail
      go_ret
      exact ⟨by rw [HX.out]; rfl, HB3.out.trans (HQ.out.1.mono HB3.out.size)⟩
     ·have HX := Lib.hid (show ((l.drop p).take (k + 1)).all (fun t => ofC t .num) = true by
       rw [all_take (fun t => ofC t .num) (by rw [HPQ.out]; exact HJS.out), HQ.out.2, hof]; rfl)
      clear hof
      go_wp2_with fail
      go_roundw
      case rel => exact ⟨k + 1, by have := HQL.out; have := HPQ.out; omega, by have := HPQ.out; have := HQL.out; have := HPK.out; go_num, HQ.out.1, HX.out⟩
      case measure => have := HQL.out; simp only [intOf]; omega
    ·have hq : ¬ ((p + k : Nat) : Int) < (l.length : Int) := by omega
     have HX := Lib.hid (show keptL F l (ss.map ruleOf) 0 = true by
      rw [HSO.out]
      have := HQ.out.2
      rwa [List.take_of_length_le (by rw [List.length_drop]; omega)] at this)
     clear hlt hql
     generalize p + k = pk at hq ⊢
     go_wp2_with fail
     go_ret
     exact ⟨by rw [HX.out]; rfl, HB3.out.trans (HQ.out.1.mono HB3.out.size)⟩
  | index v =>
   have T3 := Lib.hid (show W3.heap[D]? = some (.cells #[.int .i64 6, .int .u8 (v.toNat : Int), .string ⟨#[]⟩] 119 (0, 0)) by have := HT.out; rw [hr] at this; exact this)
   rw [hr] at HSO HCT
   clear HT hr hone
   obtain ⟨c0, c1, c2, cf⟩ := cells3 T3.out
   have hlk := RMap.get HM3.out v
   have HRT := Lib.hid (ReadT_any (vS F v) (HF.out.at v) W3)
   have HRK := Lib.hid (rank_le (vS F v))
   replace HCT := Lib.hid (show cntL F l ((ss.map ruleOf).drop (m + 1)) (p + rankS (vS F v)) = true from HCT.out)
   replace HSO := Lib.hid (HSO.out.trans (show _ = (((l.drop p).take (rankS (vS F v))).all (fun t => t.data.toList == indexS.data.toList) && keptL F l ((ss.map ruleOf).drop (m + 1)) (p + rankS (vS F v))) from rfl))
   generalize vS F v = x at hlk HRT HRK HCT HSO
   go_wp2_with fail
   clear hlk
   refine HRT.out.mono ?_
   rintro e w4 ⟨hb, K, b, es, el, ao1, cc, ok, rfl, -, hrk, -, -, hsh, -⟩
   have HB4 := Lib.hid (HB3.out.trans (hb.mono HB3.out.size))
   rw [← hrk] at HRK HCT HSO hsh
   have HSH := Lib.hid hsh
   clear hb hrk hsh HRT c0 c1 c2 cf
   have hcle := cnt_le _ _ _ _ HCT.out
   have hei : (es.length : Int) ≤ 3 := by have := HRK.out; omega
   have T4 := Lib.hid (heap_alloc_new w4 (.cells #[.int .i64 K, .int .i64 b, .slice ao1 es.length cc, .string el] 165))
   have N4 := Lib.hid (new_below w4 (.cells #[.int .i64 K, .int .i64 b, .slice ao1 es.length cc, .string el] 165))
   have HLE := Lib.hid (show p + es.length ≤ l.length ∧ l.length ≤ 1048576 from ⟨hcle, by omega⟩)
   clear hcle
   go_upto_region 19 with fail
   generalize w4.alloc (.cells #[.int .i64 K, .int .i64 b, .slice ao1 es.length cc, .string el] 165) = W5 at T4 N4 ⊢
   generalize w4.heap.size = D4 at T4 ⊢
   have HB5 := Lib.hid (HB4.out.trans (N4.out.mono HB4.out.size))
   have HL5 := Lib.hid (HL.out.below HB5.out)
   clear N4
   go_loopw [7, 12] (fun pv kv wr => ∃ (k : Nat), k ≤ es.length ∧ pv = .int .i64 ((p + k : Nat) : Int) ∧ kv = .int .i64 k ∧ Hid (Below W5.heap.size W5 wr ∧ ((l.drop p).take k).all (fun t => t.data.toList == indexS.data.toList) = true)) (fun _ kv _ => es.length - (intOf kv).toNat)
   case atStart => exact ⟨0, Nat.zero_le _, rfl, rfl, Below.refl _ _, rfl⟩
   case round =>
    obtain ⟨k, hke, rfl, rfl, HQ⟩ := hrel
    have T6 := Lib.hid ((HQ.out.1.block _ (lt_of_block T4.out)).trans T4.out)
    have HB6 := Lib.hid (HB5.out.trans (HQ.out.1.mono HB5.out.size))
    obtain ⟨t0, t1, t2, t3, tf⟩ := cells4 T6.out
    by_cases hlt : k < es.length
    ·have hki : (k : Int) < (es.length : Int) := by omega
     have HK := Lib.hid (show (K == 2 || K == 3) = true by
      rcases HSH.out with (rfl | rfl) | h
      ·rfl
      ·rfl
      ·omega)
     have hlt2 : p + k < l.length := by have := HLE.out; omega
     have hq : ((p + k : Nat) : Int) < (l.length : Int) := by omega
     have HQL := Lib.hid hlt
     have hjs := List.getElem?_eq_getElem hlt2
     generalize l[p + k]'hlt2 = t at hjs
     obtain ⟨a', rfl⟩ : ∃ a', la = some a' := by
      rcases HL5.out with h0 | ⟨a', h, _⟩
      ·rw [h0] at hlt2; exact absurd hlt2 (Nat.not_lt_zero _)
      ·exact ⟨a', h⟩
     have HJS := Lib.hid hjs
     clear hlt hlt2 hke hjs
     generalize hpk : p + k = pk at hq HJS ⊢
     have HPQ := Lib.hid hpk
     clear hpk
     go_wp2_with fail
     refine (Shaped_ref K b ao1 es.length cc el wr).mono ?_
     rintro e w7 ⟨rfl, hb⟩
     rw [HK.out]
     have HB7 := Lib.hid (HQ.out.1.trans (hb.mono HQ.out.1.size))
     clear hb t0 t1 t2 t3 tf
     have hcl := strs_at (HL5.out.below HB7.out) HJS.out
     have HB8 := Lib.hid (HB5.out.trans (HB7.out.mono HB5.out.size))
     cases hof : (t.toList == [105, 110, 100, 101, 120])
     ·have HX := Lib.hid (show keptL F l (ss.map ruleOf) 0 = false by
       rw [HSO.out, all_bad (k := k) (t := t) _ (by rw [HPQ.out]; exact HJS.out) HQL.out (by rw [← ByteArray.toList_eq]; exact hof)]
       rfl)
      go_wp2_with fail
      go_ret
      exact ⟨by rw [HX.out]; rfl, HB8.out⟩
     ·have HX := Lib.hid (show ((l.drop p).take (k + 1)).all (fun t => t.data.toList == indexS.data.toList) = true by
       rw [all_take _ (by rw [HPQ.out]; exact HJS.out), HQ.out.2, ← ByteArray.toList_eq]; exact hof)
      go_wp2_with fail
      go_roundw
      case rel => exact ⟨k + 1, HQL.out, by have := HPQ.out; have := HQL.out; have := HLE.out; go_num, by go_num, HB7.out, HX.out⟩
      case measure => have := HQL.out; simp only [intOf]; omega
    ·obtain rfl : k = es.length := by omega
     have hki : ¬ ((es.length : Int) < (es.length : Int)) := by omega
     have HX := Lib.hid (HSO.out.trans (by rw [HQ.out.2, Bool.true_and]))
     clear hlt hke
     have hpe : ((p + es.length : Nat) : Int) ≤ 1048576 := by have := HLE.out; omega
     generalize p + es.length = pk at HCT HX hpe ⊢
     go_wp2_with fail
     go_roundw
     case rel => exact ⟨m + 1, pk, HLT.out, rfl, by go_num, HB6.out, HX.out, HCT.out⟩
     case measure => have := HLT.out; simp only [intOf]; omega
end Go.Proofs.YtgimdkgjfenafaaGreatDoor
namespace Go.Proofs.YtgimdkgjfenafaaGreatDoor
open Go.RowKit
theorem noB_fine : Fine noB := fun x t h => by cases h
theorem beyond {w0 w w' : World} {mb : Nat} (hB : Below w0.heap.size w0 w) (hmb : w0.heap.size ≤ mb) (hg : w.grownBy w' (some mb)) : Below w0.heap.size w0 w' := hB.grown hg hB.size (fun k e => by cases e; exact hmb)
set_option maxHeartbeats 16000000 in
set_option maxRecDepth 100000 in
theorem RMatch_any (x : DEl) (hs : DefSmall x.d) (hr : signedL x.d = true) (ia oa : Option Addr) (ins outs : List ByteArray) (ic oc : Nat) (h1 : ins.length ≤ 1048576) (h2 : outs.length ≤ 1048576) (z1 : ∀ s ∈ ins, s.size ≤ 9223372036854775807) (z2 : ∀ s ∈ outs, s.size ≤ 9223372036854775807) (t1 : ∀ s ∈ ins, isT s = true) (t2 : ∀ s ∈ outs, isT s = true) (w : World) (hd : DefOK w x) (hI : StrsAt w ia ins) (hO : StrsAt w oa outs) :
  Calls Tryz.prog 26 #[x.val, .slice ia ins.length ic, .slice oa outs.length oc] w fun e w' => e = .returned (.int .i64 (matchR x.d ins outs)) ∧ Below w.heap.size w w' := by
 have T0 := Lib.hid (heap_alloc_new w (.cells #[.string x.d.name, .slice x.io x.d.ins.length x.ic, .slice x.oo x.d.outs.length x.oc, .slice x.no x.d.needs.length x.nc, .int .i64 x.d.regions, .int .i64 x.d.succs, .slice x.ko x.d.traits.length x.kc] 41))
 have B1 := Lib.hid (new_below w (.cells #[.string x.d.name, .slice x.io x.d.ins.length x.ic, .slice x.oo x.d.outs.length x.oc, .slice x.no x.d.needs.length x.nc, .int .i64 x.d.regions, .int .i64 x.d.succs, .slice x.ko x.d.traits.length x.kc] 41))
 obtain ⟨hok1, ⟨B, hok2⟩, hno⟩ := signed_ok hr
 have HL10 := Lib.hid (rightD_long hr)
 have HS1 := Lib.hid (hd.ins.below B1.out)
 have HS2 := Lib.hid (hd.outs.below B1.out)
 have HI := Lib.hid (hI.below B1.out)
 have HO := Lib.hid (hO.below B1.out)
 have HZ1 := Lib.hid (show ∀ s ∈ x.d.ins, s.size ≤ 9223372036854775807 from fun s h => by have := hs.zi s h; omega)
 have HZ2 := Lib.hid (show ∀ s ∈ x.d.outs, s.size ≤ 9223372036854775807 from fun s h => by have := hs.zo s h; omega)
 have HNA := Lib.hid (ok_nobad _ _ hok1)
 have HNO := Lib.hid (ok_nobad _ _ hok2)
 have HC1 := Lib.hid (num_cnt ins _ _ 0 noB hok1)
 have HC2 := Lib.hid (fun F => num_cnt outs _ B 0 F hok2)
 have HG := Lib.hid (fun F => num_outs outs _ 0 F hno)
 have HN1 := Lib.hid h1
 have HN2 := Lib.hid h2
 have HT1 := Lib.hid t1
 have HT2 := Lib.hid t2
 have HY1 := Lib.hid z1
 have HY2 := Lib.hid z2
 have hmm := @run_makeMap Tryz.prog
 clear hok1 hok2 hno hd hI hO hs hr h1 h2 t1 t2 z1 z2
 obtain ⟨res, hres⟩ : ∃ res, res = matchR x.d ins outs := ⟨_, rfl⟩
 rw [← hres]
 have HX := Lib.hid (show res = if ((numL ins (x.d.ins.map ruleOf) 0 noB).2 && (numL outs (x.d.outs.map ruleOf) 0 (numL ins (x.d.ins.map ruleOf) 0 noB).1).2) = true then
  (if (keptL (numL ins (x.d.ins.map ruleOf) 0 noB).1 ins (x.d.ins.map ruleOf) 0 && keptL (numL ins (x.d.ins.map ruleOf) 0 noB).1 outs (x.d.outs.map ruleOf) 0) = true then 0 else 62) else 61 by rw [hres]; unfold matchR; rw [HG.out])
 clear hres
 unfold DEl.val
 go_enter Tryz.func26, Tryz.ntmps26
 go_upto_region 1 with fail
 generalize w.alloc (.cells #[.string x.d.name, .slice x.io x.d.ins.length x.ic, .slice x.oo x.d.outs.length x.oc, .slice x.no x.d.needs.length x.nc, .int .i64 x.d.regions, .int .i64 x.d.succs, .slice x.ko x.d.traits.length x.kc] 41) = W1 at T0 B1 HS1 HS2 HI HO ⊢
 generalize hD : w.heap.size = D at T0 ⊢
 have HDE := Lib.hid hD
 clear hD
 have HM0 := Lib.hid (MapS.made 5 9 .u8 W1)
 have N2 := Lib.hid (new_below W1 (.map #[] 0))
 go_upto_region 2 with fail
 generalize W1.alloc (.map #[] 0) = W2 at HM0 N2 ⊢
 generalize hmb : W1.heap.size = mb at HM0 ⊢
 have HMB := Lib.hid (show w.heap.size ≤ mb by rw [← hmb]; exact B1.out.size)
 have HDM := Lib.hid (show D ≠ mb by have := lt_of_block T0.out; omega)
 clear hmb
 have B2 := Lib.hid (B1.out.trans (N2.out.mono B1.out.size))
 have T2 := Lib.hid ((N2.out.block _ (lt_of_block T0.out)).trans T0.out)
 replace HS1 := Lib.hid (HS1.out.below N2.out)
 replace HS2 := Lib.hid (HS2.out.below N2.out)
 replace HI := Lib.hid (HI.out.below N2.out)
 replace HO := Lib.hid (HO.out.below N2.out)
 obtain ⟨ob, ho1, ho2⟩ := MapS.obj HM0.out
 have HOB := Lib.hid (And.intro ho1 ho2)
 clear N2 T0 B1 ho1 ho2
 obtain ⟨c0, c1, c2, c3, c4, c5, c6, cf⟩ := dcells7 T2.out
 go_wp2_with fail
 refine (RNumbers_any x.io x.d.ins x.ic HL10.out.1 HZ1.out ia ins ic HN1.out HY1.out mb 0 (by decide) noB noB_fine W2 HS1.out HI.out HM0.out).mono ?_
 rintro e w3 ⟨hg, rfl, hm, hf⟩
 have T3 := Lib.hid ((hg.block D (lt_of_block T2.out) (fun e => HDM.out (Option.some.inj e))).trans T2.out)
 have B3 := Lib.hid (beyond B2.out HMB.out hg)
 have K3 := Lib.hid (strs_grown HS1.out hg HOB.out.1 HOB.out.2)
 have K4 := Lib.hid (strs_grown HS2.out hg HOB.out.1 HOB.out.2)
 have K5 := Lib.hid (strs_grown HI.out hg HOB.out.1 HOB.out.2)
 have K6 := Lib.hid (strs_grown HO.out hg HOB.out.1 HOB.out.2)
 have HM3 := Lib.hid hm
 have HF3 := Lib.hid hf
 clear hg hm hf HS1 HS2 HI HO HM0 HOB T2 c0 c1 c2 c3 c4 c5 c6 cf
 generalize hq1 : (numL ins (x.d.ins.map ruleOf) 0 noB).1 = F at HM3 HF3 HX HC1
 generalize hq2 : (numL ins (x.d.ins.map ruleOf) 0 noB).2 = a at HX HC1 ⊢
 clear hq1 hq2
 obtain ⟨ob, ho1, ho2⟩ := MapS.obj HM3.out
 have HOB := Lib.hid (And.intro ho1 ho2)
 clear ho1 ho2
 obtain ⟨c0, c1, c2, c3, c4, c5, c6, cf⟩ := dcells7 T3.out
 go_wp2_with fail
 refine (RNumbers_any x.oo x.d.outs x.oc HL10.out.2 HZ2.out oa outs oc HN2.out HY2.out mb (0 + x.d.ins.length) (by have := HL10.out.1; omega) F HF3.out w3 K4.out K6.out HM3.out).mono ?_
 rintro e w4 ⟨hg, rfl, hm, hf⟩
 rw [HG.out F] at hm
 have T4 := Lib.hid ((hg.block D (lt_of_block T3.out) (fun e => HDM.out (Option.some.inj e))).trans T3.out)
 have B4 := Lib.hid (beyond B3.out HMB.out hg)
 have HS1 := Lib.hid (strs_grown K3.out hg HOB.out.1 HOB.out.2)
 have HS2 := Lib.hid (strs_grown K4.out hg HOB.out.1 HOB.out.2)
 have HI := Lib.hid (strs_grown K5.out hg HOB.out.1 HOB.out.2)
 have HO := Lib.hid (strs_grown K6.out hg HOB.out.1 HOB.out.2)
 have HM4 := Lib.hid hm
 have HC3 := Lib.hid (by have := HC2.out F; rw [HG.out F] at this; exact this)
 clear hg hm hf K3 K4 K5 K6 HM3 HOB T3 B3 HG HC2 c0 c1 c2 c3 c4 c5 c6 cf
 generalize (numL outs (x.d.outs.map ruleOf) 0 F).2 = b at HX HC3 ⊢
 obtain ⟨c0, c1, c2, c3, c4, c5, c6, cf⟩ := dcells7 T4.out
 cases a
 ·go_wp2_with fail
  go_ret
  exact ⟨by rw [HX.out]; rfl, HDE.out ▸ B4.out⟩
 cases b
 ·go_wp2_with fail
  go_ret
  exact ⟨by rw [HX.out]; rfl, HDE.out ▸ B4.out⟩
 go_wp2_with fail
 refine (RKept_any x.io x.d.ins x.ic HL10.out.1 HZ1.out HNA.out ia ins ic HN1.out HY1.out HT1.out mb _ F HF3.out HC1.out.symm w4 HS1.out HI.out HM4.out).mono ?_
 rintro e w5 ⟨rfl, hb⟩
 have T5 := Lib.hid ((hb.block _ (lt_of_block T4.out)).trans T4.out)
 have B5 := Lib.hid (B4.out.trans (hb.mono B4.out.size))
 have HS5 := Lib.hid (HS2.out.below hb)
 have HO5 := Lib.hid (HO.out.below hb)
 have HM5 := Lib.hid (MapS.below HM4.out hb)
 clear hb HS1 HS2 HI HO HM4 T4 B4 c0 c1 c2 c3 c4 c5 c6 cf
 generalize keptL F ins (x.d.ins.map ruleOf) 0 = ka at HX ⊢
 obtain ⟨c0, c1, c2, c3, c4, c5, c6, cf⟩ := dcells7 T5.out
 cases ka
 ·go_wp2_with fail
  go_ret
  exact ⟨by rw [HX.out]; rfl, HDE.out ▸ B5.out⟩
 go_wp2_with fail
 refine (RKept_any x.oo x.d.outs x.oc HL10.out.2 HZ2.out HNO.out oa outs oc HN2.out HY2.out HT2.out mb _ F HF3.out HC3.out.symm w5 HS5.out HO5.out HM5.out).mono ?_
 rintro e w6 ⟨rfl, hb⟩
 have B6 := Lib.hid (B5.out.trans (hb.mono B5.out.size))
 clear hb
 generalize keptL F outs (x.d.outs.map ruleOf) 0 = kb at HX ⊢
 cases kb
 ·go_wp2_with fail
  go_ret
  exact ⟨by rw [HX.out]; rfl, HDE.out ▸ B6.out⟩
 ·go_wp2_with fail
  go_ret
  exact ⟨by rw [HX.out]; rfl, HDE.out ▸ B6.out⟩
end Go.Proofs.YtgimdkgjfenafaaGreatDoor
