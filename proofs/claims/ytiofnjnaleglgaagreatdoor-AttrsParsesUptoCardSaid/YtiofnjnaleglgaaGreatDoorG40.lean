/-
  Texts of mine in one file: AtAW, AtED.
-/
import Derived.Test.YtiofnjnaleglgaaGreatDoorG38
import Derived.Test.YtiofnjnaleglgaaGreatDoorG39
import Derived.Test.YtiofnjnaleglgaaGreatDoorG32
import Derived.Deep.RegionHeld3
import Derived.Deep.Cut
import Derived.Deep.DeepCutAuto
import Derived.BigRegion
import Derived.Test.YtiofnjnaleglgaaGreatDoorG30
import Derived.Test.YtiofnjnaleglgaaGreatDoorG31
/-
  'awake' of the laws of attributes: it answers true in whatever world holds the library's variables.
-/
namespace Go.Proofs.YtiofnjnaleglgaaGreatDoor
open Go.RowKit Go.BigFrame

def awL : List At := [⟨⟨#[97]⟩, 0, 5, ⟨#[]⟩, [], []⟩, ⟨⟨#[98]⟩, 1, 0, ⟨#[120, 34, 121, 10, 128]⟩, [], []⟩, ⟨⟨#[99]⟩, 2, 0, ⟨#[102]⟩, [], []⟩, ⟨⟨#[100]⟩, 3, 0, ⟨#[105, 51, 50]⟩, [], []⟩, ⟨⟨#[101]⟩, 4, 0, ⟨#[]⟩, [1, -2], []⟩, ⟨⟨#[102]⟩, 5, 0, ⟨#[]⟩, [], [⟨#[105, 49]⟩, ⟨#[105, 110, 100, 101, 120]⟩]⟩]
def awP : List At := [⟨⟨#[97]⟩, 0, 5, ⟨#[]⟩, [], []⟩, ⟨⟨#[99]⟩, 2, 0, ⟨#[102]⟩, [], []⟩]
def awB : At := ⟨⟨#[98]⟩, 0, 7, ⟨#[]⟩, [], []⟩
def awE : At := ⟨⟨#[97]⟩, 4, 0, ⟨#[]⟩, [], []⟩
def awS : ByteArray := ⟨#[123, 97, 32, 61, 32, 53, 44, 32, 99, 32, 61, 32, 64, 102, 125]⟩
def awT : List UInt8 := [123, 97, 32, 61, 32, 53, 44, 32, 98, 32, 61, 32, 34, 120, 92, 34, 121, 92, 110, 92, 120, 56, 48, 34, 44, 32, 99, 32, 61, 32, 64, 102, 44, 32, 100, 32, 61, 32, 105, 51, 50, 44, 32, 101, 32, 61, 32, 91, 49, 44, 32, 45, 50, 93, 44, 32, 102, 32, 61, 32, 40, 105, 49, 44, 32, 105, 110, 100, 101, 120, 41, 125]
theorem awR (a : At) (h : a ∈ awL ∨ a ∈ awP ∨ a = awB ∨ a = awE) : rightB a = true := by
  simp only [awL, awP, List.mem_cons, List.not_mem_nil, or_false] at h
  rcases h with (rfl | rfl | rfl | rfl | rfl | rfl) | (rfl | rfl) | rfl | rfl <;> kernel_rfl
theorem awW (a : At) (h : a ∈ awL ∨ a ∈ awP ∨ a = awB ∨ a = awE) : a.Wf := by
  simp only [awL, awP, List.mem_cons, List.not_mem_nil, or_false] at h
  rcases h with (rfl | rfl | rfl | rfl | rfl | rfl) | (rfl | rfl) | rfl | rfl <;> exact ⟨⟨by decide, by decide⟩, ⟨by decide, by decide⟩, by decide, by decide, by decide⟩
theorem less_of {a b : ByteArray} (h : Lib.compareBytes a.data.toList b.data.toList = -1) : lessB a b = true := (lessB_iff a b).2 (by rw [h]; decide)
theorem awRight : rightL awL = true := by
  refine (rightL_rise awL).2 ⟨by decide, fun a ha => awR a (.inl ha), ?_⟩
  simp only [awL, Rise, List.mem_cons, List.not_mem_nil, or_false, forall_eq_or_imp, forall_eq, false_implies, implies_true, and_true, and_self]
  refine ⟨⟨?_, ?_, ?_, ?_, ?_⟩, ⟨?_, ?_, ?_, ?_⟩, ⟨?_, ?_, ?_⟩, ⟨?_, ?_⟩, ?_⟩ <;> exact less_of (by decide)
theorem awRightP : rightL awP = true := by
  refine (rightL_rise awP).2 ⟨by decide, fun a ha => awR a (.inr (.inl ha)), ?_⟩
  simp only [awP, Rise, List.mem_cons, List.not_mem_nil, or_false, forall_eq, false_implies, implies_true, and_true]
  exact less_of (by decide)
theorem awText : listL awL = awT := by kernel_rfl
theorem awTextP : listL awP = awS.data.toList := by kernel_rfl
theorem awGood : Good awS awP := ⟨awRightP, fun a ha => awW a (.inr (.inl ha)), awTextP⟩
theorem awVal : valueL awE = [91, 93] := by kernel_rfl
theorem awPrS : prStr awL = ⟨awT.toArray⟩ := by
  unfold prStr
  rw [awRight, if_pos rfl, awText]
  unfold limStr
  rw [if_neg (by decide)]
theorem awPrE : prErr awL = 0 := by
  unfold prErr
  rw [awRight, if_pos rfl, awText]
  unfold limErr
  rw [if_neg (by decide)]
theorem awPos : posL awL ⟨#[101]⟩ = 4 := by kernel_rfl
theorem awGet : findErr awL ⟨#[101]⟩ = 0 ∧ getL awL ⟨#[101]⟩ = ⟨⟨#[101]⟩, 4, 0, ⟨#[]⟩, [1, -2], []⟩ := by
  have h := findErr_yes (nm := ⟨#[101]⟩) awRight (by rw [awPos]; decide)
  exact ⟨h, by rw [getL_yes h, awPos]; rfl⟩
theorem awCmp (a b : At) (ha : a = ⟨⟨#[97]⟩, 0, 5, ⟨#[]⟩, [], []⟩) (hb : b = ⟨⟨#[98]⟩, 1, 0, ⟨#[120, 34, 121, 10, 128]⟩, [], []⟩) : cmpOut a b = -1 ∧ cmpErr a b = 0 := by
  subst ha hb
  obtain ⟨h1, h2⟩ := cmp_good (awR (⟨⟨#[97]⟩, 0, 5, ⟨#[]⟩, [], []⟩ : At) (.inl (by simp [awL]))) (awR (⟨⟨#[98]⟩, 1, 0, ⟨#[120, 34, 121, 10, 128]⟩, [], []⟩ : At) (.inl (by simp [awL])))
  exact ⟨h2.trans (by unfold cmpL orL; rw [if_neg (by decide)]; decide), h1⟩
theorem awMerge : mergeL awP [awB] = [⟨⟨#[97]⟩, 0, 5, ⟨#[]⟩, [], []⟩, awB, ⟨⟨#[99]⟩, 2, 0, ⟨#[102]⟩, [], []⟩] := by
  unfold awP
  rw [one_lt (by decide), one_gt (by decide)]
theorem awRightB : rightL [awB] = true := (rightL_rise _).2 ⟨by decide, fun a ha => awR a (.inr (.inr (.inl (by simpa using ha)))), ⟨fun _ h => (by cases h), trivial⟩⟩
theorem awSet : mergeErr awP [awB] = 0 ∧ mergeOut awP [awB] = [⟨⟨#[97]⟩, 0, 5, ⟨#[]⟩, [], []⟩, awB, ⟨⟨#[99]⟩, 2, 0, ⟨#[102]⟩, [], []⟩] := by
  have h := mergeErr_ok (l := awP) (m := [awB]) (by rw [awRightP, awRightB]; rfl) (by rw [awMerge]; decide)
  exact ⟨h, by rw [mergeOut_ok h, awMerge]⟩
theorem awMrg : mergeErr awL [] = 0 ∧ mergeOut awL [] = awL := by
  have h := mergeErr_ok (l := awL) (m := []) (by rw [awRight]; rfl) (by rw [mergeL_nil_r]; decide)
  exact ⟨h, by rw [mergeOut_ok h, mergeL_nil_r]⟩
theorem awBad : rightL [⟨⟨#[98]⟩, 0, 0, ⟨#[]⟩, [], []⟩, ⟨⟨#[97]⟩, 0, 0, ⟨#[]⟩, [], []⟩] = false := by
  cases h : rightL [⟨⟨#[98]⟩, 0, 0, ⟨#[]⟩, [], []⟩, ⟨⟨#[97]⟩, 0, 0, ⟨#[]⟩, [], []⟩] with
  | false => rfl
  | true =>
    have h1 := ((rightL_rise _).1 h).2.2.1 ⟨⟨#[97]⟩, 0, 0, ⟨#[]⟩, [], []⟩ (by simp)
    have h2 := (lessB_iff _ _).1 h1
    exact absurd h2 (by decide)

/-- The list that the law writes, as it lies in memory. -/
theorem awList {w : World} {b i t : Nat} {T : TypeId} (hb : w.heap[b]? = some (.cells #[.string ⟨#[97]⟩, .int .i64 0, .int .i64 5, .string ⟨#[]⟩, .slice none 0 0, .slice none 0 0, .string ⟨#[98]⟩, .int .i64 1, .int .i64 0, .string ⟨#[120, 34, 121, 10, 128]⟩, .slice none 0 0, .slice none 0 0,
      .string ⟨#[99]⟩, .int .i64 2, .int .i64 0, .string ⟨#[102]⟩, .slice none 0 0, .slice none 0 0, .string ⟨#[100]⟩, .int .i64 3, .int .i64 0, .string ⟨#[105, 51, 50]⟩, .slice none 0 0, .slice none 0 0,
      .string ⟨#[101]⟩, .int .i64 4, .int .i64 0, .string ⟨#[]⟩, .slice (some ⟨i, 0, none⟩) 2 2, .slice none 0 0, .string ⟨#[102]⟩, .int .i64 5, .int .i64 0, .string ⟨#[]⟩, .slice none 0 0, .slice (some ⟨t, 0, none⟩) 2 2] T (0, 0)))
    {T1 T2 : TypeId} (hi : w.heap[i]? = some (.cells #[.int .i64 1, .int .i64 (-2)] T1 (0, 0))) (ht : w.heap[t]? = some (.cells #[.string ⟨#[105, 49]⟩, .string ⟨#[105, 110, 100, 101, 120]⟩] T2 (0, 0))) : ListAt w (some ⟨b, 0, none⟩) awL := by
  have hI : IntsAt w (some ⟨i, 0, none⟩) [1, -2] := .inr ⟨_, rfl, fun j hj => by
    rw [Addr.add_lit, cell_of_row _ _ _ _ _ _ hi]
    rcases (show j = 0 ∨ j = 1 by simp at hj; omega) with rfl | rfl <;> rfl⟩
  have hT : StrsAt w (some ⟨t, 0, none⟩) [⟨#[105, 49]⟩, ⟨#[105, 110, 100, 101, 120]⟩] := .inr ⟨_, rfl, fun j hj => by
    rw [Addr.add_lit, cell_of_row _ _ _ _ _ _ ht]
    rcases (show j = 0 ∨ j = 1 by simp at hj; omega) with rfl | rfl <;> rfl⟩
  refine .inr ⟨b, 0, rfl, fun j hj => ?_⟩
  have hw : (nth awL j).Wf := awW _ (.inl (by rw [nth_get hj]; exact List.getElem_mem hj))
  have hc : ∀ k, w.cell? ⟨b, k, none⟩ = _ := fun k => cell_of_row w b k _ _ _ hb
  rcases (show j = 0 ∨ j = 1 ∨ j = 2 ∨ j = 3 ∨ j = 4 ∨ j = 5 by simp [awL] at hj; omega) with rfl | rfl | rfl | rfl | rfl | rfl
  · exact ⟨none, 0, none, 0, hc 0, hc 1, hc 2, hc 3, hc 4, hc 5, .inl rfl, .inl rfl, Nat.le_refl _, Nat.le_refl _, hw⟩
  · exact ⟨none, 0, none, 0, hc 6, hc 7, hc 8, hc 9, hc 10, hc 11, .inl rfl, .inl rfl, Nat.le_refl _, Nat.le_refl _, hw⟩
  · exact ⟨none, 0, none, 0, hc 12, hc 13, hc 14, hc 15, hc 16, hc 17, .inl rfl, .inl rfl, Nat.le_refl _, Nat.le_refl _, hw⟩
  · exact ⟨none, 0, none, 0, hc 18, hc 19, hc 20, hc 21, hc 22, hc 23, .inl rfl, .inl rfl, Nat.le_refl _, Nat.le_refl _, hw⟩
  · exact ⟨some ⟨i, 0, none⟩, 2, none, 0, hc 24, hc 25, hc 26, hc 27, hc 28, hc 29, hI, .inl rfl, Nat.le_refl _, Nat.le_refl _, hw⟩
  · exact ⟨none, 0, some ⟨t, 0, none⟩, 2, hc 30, hc 31, hc 32, hc 33, hc 34, hc 35, .inl rfl, hT, Nat.le_refl _, Nat.le_refl _, hw⟩

/-- The first two attributes lie in the list. -/
def AwS (V : World) (S : Nat) (xi : Option Addr) (xci : Nat) (xo : Option Addr) (xct : Nat) (yi : Option Addr) (yci : Nat) (yo : Option Addr) (yct : Nat) (w' : World) : Prop := w'.cell? ⟨S, 0, none⟩ = some (.string ⟨#[97]⟩) ∧ w'.cell? ⟨S, 1, none⟩ = some (.int .i64 0) ∧ w'.cell? ⟨S, 2, none⟩ = some (.int .i64 5) ∧ w'.cell? ⟨S, 3, none⟩ = some (.string ⟨#[]⟩) ∧ w'.cell? ⟨S, 4, none⟩ = some (.slice xi 0 xci) ∧ w'.cell? ⟨S, 5, none⟩ = some (.slice xo 0 xct) ∧ w'.cell? ⟨S, 6, none⟩ = some (.string ⟨#[98]⟩) ∧ w'.cell? ⟨S, 7, none⟩ = some (.int .i64 1) ∧ w'.cell? ⟨S, 8, none⟩ = some (.int .i64 0) ∧ w'.cell? ⟨S, 9, none⟩ = some (.string ⟨#[120, 34, 121, 10, 128]⟩) ∧ w'.cell? ⟨S, 10, none⟩ = some (.slice yi 0 yci) ∧ w'.cell? ⟨S, 11, none⟩ = some (.slice yo 0 yct) ∧ Hid (Below V.heap.size V w')
theorem AwS.step {V : World} {S : Nat} {xi : Option Addr} {xci : Nat} {xo : Option Addr} {xct : Nat} {yi : Option Addr} {yci : Nat} {yo : Option Addr} {yct : Nat} {X Y : World} (h : AwS V S xi xci xo xct yi yci yo yct X) (hb : Below X.heap.size X Y) : AwS V S xi xci xo xct yi yci yo yct Y := by
  obtain ⟨h0, h1, h2, h3, h4, h5, k0, k1, k2, k3, k4, k5, hB⟩ := h
  have hc : ∀ {x : Addr} {v : Value}, X.cell? x = some v → Y.cell? x = some v := fun hx => (hb.cell (block_lt_of_cell hx)).trans hx
  exact ⟨hc h0, hc h1, hc h2, hc h3, hc h4, hc h5, hc k0, hc k1, hc k2, hc k3, hc k4, hc k5, hB.out.trans (hb.mono hB.out.size)⟩
theorem AwS.below {V : World} {S : Nat} {xi : Option Addr} {xci : Nat} {xo : Option Addr} {xct : Nat} {yi : Option Addr} {yci : Nat} {yo : Option Addr} {yct : Nat} {X : World} (h : AwS V S xi xci xo xct yi yci yo yct X) : Below V.heap.size V X := h.2.2.2.2.2.2.2.2.2.2.2.2

set_option maxHeartbeats 4000000 in
set_option maxRecDepth 100000 in
theorem awake2_any (w : World) (hE : Env w) :
    Calls Tryz.prog 18 #[] w fun e w' => e = .returned (.bool true) ∧ Below w.heap.size w w' := by
  have HE := Lib.hid hE
  clear hE
  go_enter Tryz.func18, Tryz.ntmps18
  have k0 := heap_alloc_new w (.cells #[.int .i64 1, .int .i64 (-2)] 2)
  have k1 := heap_alloc_new (w.alloc (.cells #[.int .i64 1, .int .i64 (-2)] 2)) (.cells #[.string ⟨#[105, 49]⟩, .string ⟨#[105, 110, 100, 101, 120]⟩] 9)
  have k2 := heap_alloc_new ((w.alloc (.cells #[.int .i64 1, .int .i64 (-2)] 2)).alloc (.cells #[.string ⟨#[105, 49]⟩, .string ⟨#[105, 110, 100, 101, 120]⟩] 9)) (.cells #[.string ⟨#[97]⟩, .int .i64 0, .int .i64 5, .string ⟨#[]⟩, .slice none 0 0, .slice none 0 0, .string ⟨#[98]⟩, .int .i64 1, .int .i64 0, .string ⟨#[120, 34, 121, 10, 128]⟩, .slice none 0 0, .slice none 0 0, .string ⟨#[99]⟩, .int .i64 2, .int .i64 0, .string ⟨#[102]⟩, .slice none 0 0, .slice none 0 0, .string ⟨#[100]⟩, .int .i64 3, .int .i64 0, .string ⟨#[105, 51, 50]⟩, .slice none 0 0, .slice none 0 0, .string ⟨#[101]⟩, .int .i64 4, .int .i64 0, .string ⟨#[]⟩, .slice (some ⟨w.heap.size, 0, none⟩) 2 2, .slice none 0 0, .string ⟨#[102]⟩, .int .i64 5, .int .i64 0, .string ⟨#[]⟩, .slice none 0 0, .slice (some ⟨w.heap.size + 1, 0, none⟩) 2 2] 29)
  have e1 : (w.alloc (.cells #[.int .i64 1, .int .i64 (-2)] 2)).heap.size = w.heap.size + 1 := by simp
  have e2 : ((w.alloc (.cells #[.int .i64 1, .int .i64 (-2)] 2)).alloc (.cells #[.string ⟨#[105, 49]⟩, .string ⟨#[105, 110, 100, 101, 120]⟩] 9)).heap.size = w.heap.size + 1 + 1 := by simp
  have l0 := (Below.heap_alloc _ (.cells #[.string ⟨#[97]⟩, .int .i64 0, .int .i64 5, .string ⟨#[]⟩, .slice none 0 0, .slice none 0 0, .string ⟨#[98]⟩, .int .i64 1, .int .i64 0, .string ⟨#[120, 34, 121, 10, 128]⟩, .slice none 0 0, .slice none 0 0, .string ⟨#[99]⟩, .int .i64 2, .int .i64 0, .string ⟨#[102]⟩, .slice none 0 0, .slice none 0 0, .string ⟨#[100]⟩, .int .i64 3, .int .i64 0, .string ⟨#[105, 51, 50]⟩, .slice none 0 0, .slice none 0 0, .string ⟨#[101]⟩, .int .i64 4, .int .i64 0, .string ⟨#[]⟩, .slice (some ⟨w.heap.size, 0, none⟩) 2 2, .slice none 0 0, .string ⟨#[102]⟩, .int .i64 5, .int .i64 0, .string ⟨#[]⟩, .slice none 0 0, .slice (some ⟨w.heap.size + 1, 0, none⟩) 2 2] 29) _ (lt_of_block ((Below.heap_alloc _ (.cells #[.string ⟨#[105, 49]⟩, .string ⟨#[105, 110, 100, 101, 120]⟩] 9) _ (lt_of_block k0)).trans k0))).trans ((Below.heap_alloc _ (.cells #[.string ⟨#[105, 49]⟩, .string ⟨#[105, 110, 100, 101, 120]⟩] 9) _ (lt_of_block k0)).trans k0)
  have l1 := (Below.heap_alloc _ (.cells #[.string ⟨#[97]⟩, .int .i64 0, .int .i64 5, .string ⟨#[]⟩, .slice none 0 0, .slice none 0 0, .string ⟨#[98]⟩, .int .i64 1, .int .i64 0, .string ⟨#[120, 34, 121, 10, 128]⟩, .slice none 0 0, .slice none 0 0, .string ⟨#[99]⟩, .int .i64 2, .int .i64 0, .string ⟨#[102]⟩, .slice none 0 0, .slice none 0 0, .string ⟨#[100]⟩, .int .i64 3, .int .i64 0, .string ⟨#[105, 51, 50]⟩, .slice none 0 0, .slice none 0 0, .string ⟨#[101]⟩, .int .i64 4, .int .i64 0, .string ⟨#[]⟩, .slice (some ⟨w.heap.size, 0, none⟩) 2 2, .slice none 0 0, .string ⟨#[102]⟩, .int .i64 5, .int .i64 0, .string ⟨#[]⟩, .slice none 0 0, .slice (some ⟨w.heap.size + 1, 0, none⟩) 2 2] 29) _ (lt_of_block k1)).trans k1
  rw [e1] at l1
  rw [e2] at k2
  have L1 := Lib.hid (awList k2 l0 l1)
  have B1 := Lib.hid (show Below w.heap.size w (((w.alloc (.cells #[.int .i64 1, .int .i64 (-2)] 2)).alloc (.cells #[.string ⟨#[105, 49]⟩, .string ⟨#[105, 110, 100, 101, 120]⟩] 9)).alloc (.cells #[.string ⟨#[97]⟩, .int .i64 0, .int .i64 5, .string ⟨#[]⟩, .slice none 0 0, .slice none 0 0, .string ⟨#[98]⟩, .int .i64 1, .int .i64 0, .string ⟨#[120, 34, 121, 10, 128]⟩, .slice none 0 0, .slice none 0 0, .string ⟨#[99]⟩, .int .i64 2, .int .i64 0, .string ⟨#[102]⟩, .slice none 0 0, .slice none 0 0, .string ⟨#[100]⟩, .int .i64 3, .int .i64 0, .string ⟨#[105, 51, 50]⟩, .slice none 0 0, .slice none 0 0, .string ⟨#[101]⟩, .int .i64 4, .int .i64 0, .string ⟨#[]⟩, .slice (some ⟨w.heap.size, 0, none⟩) 2 2, .slice none 0 0, .string ⟨#[102]⟩, .int .i64 5, .int .i64 0, .string ⟨#[]⟩, .slice none 0 0, .slice (some ⟨w.heap.size + 1, 0, none⟩) 2 2] 29)) from (((Below.refl _ w).alloc (Nat.le_refl _) _).alloc (by simp) _).alloc (by simp; omega) _)
  clear k0 k1 k2 e1 e2 l0 l1
  go_upto_region 2 with fail
  generalize ((w.alloc (.cells #[.int .i64 1, .int .i64 (-2)] 2)).alloc (.cells #[.string ⟨#[105, 49]⟩, .string ⟨#[105, 110, 100, 101, 120]⟩] 9)).alloc (.cells #[.string ⟨#[97]⟩, .int .i64 0, .int .i64 5, .string ⟨#[]⟩, .slice none 0 0, .slice none 0 0, .string ⟨#[98]⟩, .int .i64 1, .int .i64 0, .string ⟨#[120, 34, 121, 10, 128]⟩, .slice none 0 0, .slice none 0 0, .string ⟨#[99]⟩, .int .i64 2, .int .i64 0, .string ⟨#[102]⟩, .slice none 0 0, .slice none 0 0, .string ⟨#[100]⟩, .int .i64 3, .int .i64 0, .string ⟨#[105, 51, 50]⟩, .slice none 0 0, .slice none 0 0, .string ⟨#[101]⟩, .int .i64 4, .int .i64 0, .string ⟨#[]⟩, .slice (some ⟨w.heap.size, 0, none⟩) 2 2, .slice none 0 0, .string ⟨#[102]⟩, .int .i64 5, .int .i64 0, .string ⟨#[]⟩, .slice none 0 0, .slice (some ⟨w.heap.size + 1, 0, none⟩) 2 2] 29) = w1 at L1 B1 ⊢
  generalize hS : w.heap.size + 1 + 1 = S at L1 ⊢
  clear hS
  have h6 : awL.length = 6 := rfl
  go_wp2_with fail
  refine (Print_any (some ⟨S, 0, none⟩) awL 6 (by decide) w1 L1.out (HE.out.below B1.out)).mono ?_
  rintro e w2 ⟨rfl, hb⟩
  rw [awPrS, awPrE]
  have B2 := Lib.hid (B1.out.trans (hb.mono B1.out.size))
  have L2 := Lib.hid (L1.out.below hb)
  clear hb L1 B1
  go_wp2_with fail
  refine (Parse_any awS (by decide) w2 (HE.out.below B2.out)).mono ?_
  rintro e w3 ⟨hb, (⟨L, po, pc, rfl, hl, hc, hr, ht, hu⟩ | ⟨rfl, hno⟩)⟩
  rotate_left
  · exact absurd awGood (hno awP)
  obtain rfl : L = awP := hu awP awGood
  have B3 := Lib.hid (B2.out.trans (hb.mono B2.out.size))
  have L3 := Lib.hid (L2.out.below hb)
  have P3 := Lib.hid hl
  clear hb hl hc hr ht hu L2 B2
  go_wp2_with fail
  refine (Read_any ⟨#[97]⟩ ⟨#[91, 93]⟩ (by decide) w3 (HE.out.below B3.out)).mono ?_
  rintro e w4 ⟨hb, (⟨_, ra, rv, ri, rci, ro, rct, rfl, hat, hnm, hrt, hvl⟩ | ⟨_, rfl, hno⟩ | ⟨hno, rfl⟩)⟩
  rotate_left
  · exact absurd awVal (hno awE (awR _ (.inr (.inr (.inr rfl)))) (awW _ (.inr (.inr (.inr rfl)))) rfl)
  · exact absurd hno (by decide)
  have hk : ra.kind = 4 := (kind_value hrt).symm.trans (by rw [hvl]; rfl)
  have hrv := hat.val
  clear hnm
  obtain ⟨rn, rk, rz, rt, ris, rts⟩ := ra
  dsimp only at hk hrv
  subst hk hrv
  have B4 := Lib.hid (B3.out.trans (hb.mono B3.out.size))
  have B5 := Lib.hid (B4.out.alloc B4.out.size (.cells #[.string rn, .int .i64 4, .int .i64 rz, .string rt, .slice ri ris.length rci, .slice ro rts.length rct] 29))
  have L5 := Lib.hid ((L3.out.below hb).below (alloc_below w4 (.cells #[.string rn, .int .i64 4, .int .i64 rz, .string rt, .slice ri ris.length rci, .slice ro rts.length rct] 29)))
  have P5 := Lib.hid ((P3.out.below hb).below (alloc_below w4 (.cells #[.string rn, .int .i64 4, .int .i64 rz, .string rt, .slice ri ris.length rci, .slice ro rts.length rct] 29)))
  have R5 := Lib.hid (heap_alloc_new w4 (.cells #[.string rn, .int .i64 4, .int .i64 rz, .string rt, .slice ri ris.length rci, .slice ro rts.length rct] 29))
  clear hb hat hrt hvl L3 B3 P3 B4
  go_upto_region 5 with fail
  generalize w4.alloc (.cells #[.string rn, .int .i64 4, .int .i64 rz, .string rt, .slice ri ris.length rci, .slice ro rts.length rct] 29) = w5 at B5 L5 P5 R5 ⊢
  generalize w4.heap.size = D at R5 ⊢
  go_wp2_with fail
  refine (Get_any (some ⟨S, 0, none⟩) awL 6 ⟨#[101]⟩ (by decide) w5 L5.out (HE.out.below B5.out)).mono ?_
  rintro e w6 ⟨gv, gi, gci, go, gct, rfl, hat, hb⟩
  rw [awGet.1]
  rw [awGet.2] at hat
  have hgv := hat.val
  dsimp only [List.length_cons, List.length_nil] at hgv
  subst hgv
  have B6 := Lib.hid (B5.out.trans (hb.mono B5.out.size))
  have B7 := Lib.hid (B6.out.alloc B6.out.size (.cells #[.string ⟨#[101]⟩, .int .i64 4, .int .i64 0, .string ⟨#[]⟩, .slice gi 2 gci, .slice go 0 gct] 29))
  have L7 := Lib.hid ((L5.out.below hb).below (alloc_below w6 (.cells #[.string ⟨#[101]⟩, .int .i64 4, .int .i64 0, .string ⟨#[]⟩, .slice gi 2 gci, .slice go 0 gct] 29)))
  have P7 := Lib.hid ((P5.out.below hb).below (alloc_below w6 (.cells #[.string ⟨#[101]⟩, .int .i64 4, .int .i64 0, .string ⟨#[]⟩, .slice gi 2 gci, .slice go 0 gct] 29)))
  have R6 := (hb.block _ (lt_of_block R5.out)).trans R5.out
  have R7 := Lib.hid (((alloc_below w6 (.cells #[.string ⟨#[101]⟩, .int .i64 4, .int .i64 0, .string ⟨#[]⟩, .slice gi 2 gci, .slice go 0 gct] 29)).block _ (lt_of_block R6)).trans R6)
  have G7 := Lib.hid (heap_alloc_new w6 (.cells #[.string ⟨#[101]⟩, .int .i64 4, .int .i64 0, .string ⟨#[]⟩, .slice gi 2 gci, .slice go 0 gct] 29))
  clear hb hat L5 P5 R5 R6 B5 B6
  go_upto_region 6 with fail
  generalize w6.alloc (.cells #[.string ⟨#[101]⟩, .int .i64 4, .int .i64 0, .string ⟨#[]⟩, .slice gi 2 gci, .slice go 0 gct] 29) = w7 at B7 L7 P7 R7 G7 ⊢
  generalize w6.heap.size = F at G7 ⊢
  obtain ⟨hc0, hc1⟩ : (∃ ai ci ao ct, ElAt w7 S (0 + 0 * 6) (nth awL 0) ai ci ao ct) ∧ (∃ ai ci ao ct, ElAt w7 S (0 + 1 * 6) (nth awL 1) ai ci ao ct) := by
    rcases L7.out with h | ⟨bk, o, hso, hc⟩
    · cases h
    · cases hso
      exact ⟨hc 0 (by decide), hc 1 (by decide)⟩
  obtain ⟨xi, xci, xo, xct, hx⟩ := hc0
  obtain ⟨yi, yci, yo, yct, hy⟩ := hc1
  have HX := Lib.hid hx
  have HY := Lib.hid hy
  clear hx hy
  have x0 : w7.cell? ⟨S, 0, none⟩ = some (.string ⟨#[97]⟩) := HX.out.c0
  have x1 : w7.cell? ⟨S, 1, none⟩ = some (.int .i64 0) := HX.out.c1
  have x2 : w7.cell? ⟨S, 2, none⟩ = some (.int .i64 5) := HX.out.c2
  have x3 : w7.cell? ⟨S, 3, none⟩ = some (.string ⟨#[]⟩) := HX.out.c3
  have x4 : w7.cell? ⟨S, 4, none⟩ = some (.slice xi 0 xci) := HX.out.c4
  have x5 : w7.cell? ⟨S, 5, none⟩ = some (.slice xo 0 xct) := HX.out.c5
  have y0 : w7.cell? ⟨S, 6, none⟩ = some (.string ⟨#[98]⟩) := HY.out.c0
  have y1 : w7.cell? ⟨S, 7, none⟩ = some (.int .i64 1) := HY.out.c1
  have y2 : w7.cell? ⟨S, 8, none⟩ = some (.int .i64 0) := HY.out.c2
  have y3 : w7.cell? ⟨S, 9, none⟩ = some (.string ⟨#[120, 34, 121, 10, 128]⟩) := HY.out.c3
  have y4 : w7.cell? ⟨S, 10, none⟩ = some (.slice yi 0 yci) := HY.out.c4
  have y5 : w7.cell? ⟨S, 11, none⟩ = some (.slice yo 0 yct) := HY.out.c5
  have HSD : w7.drew.cell? ⟨S, 0, none⟩ = some (.string ⟨#[97]⟩) ∧ w7.drew.cell? ⟨S, 1, none⟩ = some (.int .i64 0) ∧ w7.drew.cell? ⟨S, 2, none⟩ = some (.int .i64 5) ∧ w7.drew.cell? ⟨S, 3, none⟩ = some (.string ⟨#[]⟩) ∧ w7.drew.cell? ⟨S, 4, none⟩ = some (.slice xi 0 xci) ∧ w7.drew.cell? ⟨S, 5, none⟩ = some (.slice xo 0 xct) ∧ w7.drew.cell? ⟨S, 6, none⟩ = some (.string ⟨#[98]⟩) ∧ w7.drew.cell? ⟨S, 7, none⟩ = some (.int .i64 1) ∧ w7.drew.cell? ⟨S, 8, none⟩ = some (.int .i64 0) ∧ w7.drew.cell? ⟨S, 9, none⟩ = some (.string ⟨#[120, 34, 121, 10, 128]⟩) ∧ w7.drew.cell? ⟨S, 10, none⟩ = some (.slice yi 0 yci) ∧ w7.drew.cell? ⟨S, 11, none⟩ = some (.slice yo 0 yct) ∧ Hid (Below w7.heap.size w7 w7.drew) := ⟨x0, x1, x2, x3, x4, x5, y0, y1, y2, y3, y4, y5, (Below.refl w7.heap.size w7).drew⟩
  have HCM := Lib.hid (show ∀ X, (X.cell? ⟨S, 0, none⟩ = some (.string ⟨#[97]⟩) ∧ X.cell? ⟨S, 1, none⟩ = some (.int .i64 0) ∧ X.cell? ⟨S, 2, none⟩ = some (.int .i64 5) ∧ X.cell? ⟨S, 3, none⟩ = some (.string ⟨#[]⟩) ∧ X.cell? ⟨S, 4, none⟩ = some (.slice xi 0 xci) ∧ X.cell? ⟨S, 5, none⟩ = some (.slice xo 0 xct) ∧ X.cell? ⟨S, 6, none⟩ = some (.string ⟨#[98]⟩) ∧ X.cell? ⟨S, 7, none⟩ = some (.int .i64 1) ∧ X.cell? ⟨S, 8, none⟩ = some (.int .i64 0) ∧ X.cell? ⟨S, 9, none⟩ = some (.string ⟨#[120, 34, 121, 10, 128]⟩) ∧ X.cell? ⟨S, 10, none⟩ = some (.slice yi 0 yci) ∧ X.cell? ⟨S, 11, none⟩ = some (.slice yo 0 yct) ∧ Hid (Below w7.heap.size w7 X)) → Calls Tryz.prog 27 #[.agg #[.string ⟨#[97]⟩, .int .i64 0, .int .i64 5, .string ⟨#[]⟩, .slice xi 0 xci, .slice xo 0 xct], .agg #[.string ⟨#[98]⟩, .int .i64 1, .int .i64 0, .string ⟨#[120, 34, 121, 10, 128]⟩, .slice yi 0 yci, .slice yo 0 yct]] X (fun e w' => e = .returned (.tuple #[.int .i64 (-1), .int .i64 0]) ∧ Below X.heap.size X w') from fun X h => by
    have hb := AwS.below (V := w7) (S := S) h
    have hc := Cmp_any (nth awL 0) (nth awL 1) _ _ xi xci xo xct yi yci yo yct X (HX.out.below hb).att (HY.out.below hb).att (HE.out.below (B7.out.trans (hb.mono B7.out.size)))
    rw [(awCmp (nth awL 0) (nth awL 1) rfl rfl).1, (awCmp (nth awL 0) (nth awL 1) rfl rfl).2] at hc
    exact hc)
  have HBB := Lib.hid (show ∀ X, (X.cell? ⟨S, 0, none⟩ = some (.string ⟨#[97]⟩) ∧ X.cell? ⟨S, 1, none⟩ = some (.int .i64 0) ∧ X.cell? ⟨S, 2, none⟩ = some (.int .i64 5) ∧ X.cell? ⟨S, 3, none⟩ = some (.string ⟨#[]⟩) ∧ X.cell? ⟨S, 4, none⟩ = some (.slice xi 0 xci) ∧ X.cell? ⟨S, 5, none⟩ = some (.slice xo 0 xct) ∧ X.cell? ⟨S, 6, none⟩ = some (.string ⟨#[98]⟩) ∧ X.cell? ⟨S, 7, none⟩ = some (.int .i64 1) ∧ X.cell? ⟨S, 8, none⟩ = some (.int .i64 0) ∧ X.cell? ⟨S, 9, none⟩ = some (.string ⟨#[120, 34, 121, 10, 128]⟩) ∧ X.cell? ⟨S, 10, none⟩ = some (.slice yi 0 yci) ∧ X.cell? ⟨S, 11, none⟩ = some (.slice yo 0 yct) ∧ Hid (Below w7.heap.size w7 X)) → Below w7.heap.size w7 X from fun X h => AwS.below (V := w7) (S := S) h)
  clear x0 x1 x2 x3 x4 x5 y0 y1 y2 y3 y4 y5 HX HY
  go_cut [10, 11] (fun x y w' => x = .int .i64 (-1) ∧ y = .int .i64 0 ∧ Hid (Below w7.heap.size w7 w'))
  case first =>
    clear HE B7 L7 P7 R7 G7
    go_region_held3 (fun w' => w'.cell? ⟨S, 0, none⟩ = some (.string ⟨#[97]⟩) ∧ w'.cell? ⟨S, 1, none⟩ = some (.int .i64 0) ∧ w'.cell? ⟨S, 2, none⟩ = some (.int .i64 5) ∧ w'.cell? ⟨S, 3, none⟩ = some (.string ⟨#[]⟩) ∧ w'.cell? ⟨S, 4, none⟩ = some (.slice xi 0 xci) ∧ w'.cell? ⟨S, 5, none⟩ = some (.slice xo 0 xct) ∧ w'.cell? ⟨S, 6, none⟩ = some (.string ⟨#[98]⟩) ∧ w'.cell? ⟨S, 7, none⟩ = some (.int .i64 1) ∧ w'.cell? ⟨S, 8, none⟩ = some (.int .i64 0) ∧ w'.cell? ⟨S, 9, none⟩ = some (.string ⟨#[120, 34, 121, 10, 128]⟩) ∧ w'.cell? ⟨S, 10, none⟩ = some (.slice yi 0 yci) ∧ w'.cell? ⟨S, 11, none⟩ = some (.slice yo 0 yct) ∧ Hid (Below w7.heap.size w7 w')) (first | exact HSD | assumption | exact AwS.step (V := w7) (S := S) (by assumption) (by assumption))
      (first | (go_at_call 27; with_reducible refine (HCM.out _ (by assumption)).mono ?_; rintro e w' ⟨rfl, hb⟩))
    all_goals
      go_wp2_with fail
      go_meet
      exact ⟨rfl, rfl, HBB.out _ (by assumption)⟩
  case rest =>
  obtain ⟨rfl, rfl, hb⟩ := hcut
  have B8 := Lib.hid (B7.out.trans (hb.out.mono B7.out.size))
  have L8 := Lib.hid (L7.out.below hb.out)
  have P8 := Lib.hid (P7.out.below hb.out)
  have R8 := Lib.hid ((hb.out.block _ (lt_of_block R7.out)).trans R7.out)
  have G8 := Lib.hid ((hb.out.block _ (lt_of_block G7.out)).trans G7.out)
  clear hb HSD HCM HBB B7 L7 P7 R7 G7
  go_wp2_with fail
  refine (Set_any po awP pc awB _ none 0 none 0 (by decide) wc P8.out ⟨rfl, .inl rfl, .inl rfl, Nat.le_refl _, Nat.le_refl _, awW _ (.inr (.inr (.inl rfl)))⟩ (HE.out.below B8.out)).mono ?_
  rintro e w9 ⟨so, sc, rfl, hsc, hsl, hb⟩
  rw [awSet.2] at hsc hsl ⊢
  rw [awSet.1]
  have B9 := Lib.hid (B8.out.trans (hb.mono B8.out.size))
  have L9 := Lib.hid (L8.out.below hb)
  have P9 := Lib.hid (P8.out.below hb)
  have S9 := Lib.hid hsl
  have R9 := Lib.hid ((hb.block _ (lt_of_block R8.out)).trans R8.out)
  have G9 := Lib.hid ((hb.block _ (lt_of_block G8.out)).trans G8.out)
  clear hb hsl hsc B8 L8 P8 R8 G8
  go_wp2_with fail
  refine (Merge_any (some ⟨S, 0, none⟩) none awL [] 6 0 (by decide) (by decide) w9 L9.out (.inl rfl) (HE.out.below B9.out)).mono ?_
  rintro e w10 ⟨mo, mc, rfl, hmc, hml, hb⟩
  rw [awMrg.2, awMrg.1]
  have B10 := Lib.hid (B9.out.trans (hb.mono B9.out.size))
  have P10 := Lib.hid (P9.out.below hb)
  have S10 := Lib.hid (S9.out.below hb)
  have R10 := Lib.hid ((hb.block _ (lt_of_block R9.out)).trans R9.out)
  have G10 := Lib.hid ((hb.block _ (lt_of_block G9.out)).trans G9.out)
  clear hb hml hmc B9 L9 P9 S9 R9 G9
  have hp2 : awP.length = 2 := rfl
  obtain ⟨pb, pq, rfl, ei, eci, eo, ect, he⟩ : ∃ pb pq, po = some ⟨pb, pq, none⟩ ∧ ∃ ei eci eo ect, ElAt w10 pb (pq + 1 * 6) (nth awP 1) ei eci eo ect := by
    rcases P10.out with h | ⟨pb, pq, h, hc⟩
    · cases h
    · exact ⟨pb, pq, h, hc 1 (by decide)⟩
  obtain ⟨sb, sq, rfl, si, sci, sx, sct, hse⟩ : ∃ sb sq, so = some ⟨sb, sq, none⟩ ∧ ∃ si sci sx sct, ElAt w10 sb (sq + 1 * 6) awB si sci sx sct := by
    rcases S10.out with h | ⟨sb, sq, h, hc⟩
    · cases h
    · exact ⟨sb, sq, h, hc 1 (by decide)⟩
  have m3 : w10.cell? ⟨pb, pq + 6 + 3, none⟩ = some (.string ⟨#[102]⟩) := he.c3
  have m9 : w10.cell? ⟨pb, pq + 9, none⟩ = some (.string ⟨#[102]⟩) := he.c3
  have n2 : w10.cell? ⟨sb, sq + 6 + 2, none⟩ = some (.int .i64 7) := hse.c2
  have n8 : w10.cell? ⟨sb, sq + 8, none⟩ = some (.int .i64 7) := hse.c2
  have r1 : w10.cell? ⟨D, 1, none⟩ = some (.int .i64 4) := cell_of_row w10 D 1 _ _ _ R10.out
  have g4 : w10.cell? ⟨F, 4, none⟩ = some (.slice gi 2 gci) := cell_of_row w10 F 4 _ _ _ G10.out
  have HK := Lib.hid (heap_alloc_new w10 (.cells #[.string ⟨#[98]⟩, .int .i64 0, .int .i64 0, .string ⟨#[]⟩, .slice none 0 0, .slice none 0 0, .string ⟨#[97]⟩, .int .i64 0, .int .i64 0, .string ⟨#[]⟩, .slice none 0 0, .slice none 0 0] 29))
  have BK := Lib.hid (B10.out.alloc B10.out.size (.cells #[.string ⟨#[98]⟩, .int .i64 0, .int .i64 0, .string ⟨#[]⟩, .slice none 0 0, .slice none 0 0, .string ⟨#[97]⟩, .int .i64 0, .int .i64 0, .string ⟨#[]⟩, .slice none 0 0, .slice none 0 0] 29))
  clear he hse P10 S10 R10 G10
  go_wp2_with fail
  refine (CheckL_any (some ⟨w10.heap.size, 0, none⟩) [⟨⟨#[98]⟩, 0, 0, ⟨#[]⟩, [], []⟩, ⟨⟨#[97]⟩, 0, 0, ⟨#[]⟩, [], []⟩] 2 (by decide) _ (.inr ⟨_, 0, rfl, fun j hj => by
    have hc : ∀ k, (w10.alloc (.cells #[.string ⟨#[98]⟩, .int .i64 0, .int .i64 0, .string ⟨#[]⟩, .slice none 0 0, .slice none 0 0, .string ⟨#[97]⟩, .int .i64 0, .int .i64 0, .string ⟨#[]⟩, .slice none 0 0, .slice none 0 0] 29)).cell? ⟨w10.heap.size, k, none⟩ = _ := fun k => cell_of_row _ _ k _ _ _ HK.out
    have hw8 : (⟨⟨#[98]⟩, 0, 0, ⟨#[]⟩, [], []⟩ : At).Wf := ⟨⟨by decide, by decide⟩, ⟨by decide, by decide⟩, by decide, by decide, by decide⟩
    have hw7 : (⟨⟨#[97]⟩, 0, 0, ⟨#[]⟩, [], []⟩ : At).Wf := ⟨⟨by decide, by decide⟩, ⟨by decide, by decide⟩, by decide, by decide, by decide⟩
    rcases (show j = 0 ∨ j = 1 by simp at hj; omega) with rfl | rfl
    · exact ⟨none, 0, none, 0, hc 0, hc 1, hc 2, hc 3, hc 4, hc 5, .inl rfl, .inl rfl, Nat.le_refl _, Nat.le_refl _, hw8⟩
    · exact ⟨none, 0, none, 0, hc 6, hc 7, hc 8, hc 9, hc 10, hc 11, .inl rfl, .inl rfl, Nat.le_refl _, Nat.le_refl _, hw7⟩⟩) (HE.out.below BK.out)).mono ?_
  rintro e w11 ⟨rfl, hb⟩
  rw [errL_no awBad]
  have B11 := Lib.hid (BK.out.trans (hb.mono BK.out.size))
  clear hb BK HK m3 m9 n2 n8 r1 g4
  go_wp2_with fail
  go_ret
  exact ⟨rfl, B11.out⟩
end Go.Proofs.YtiofnjnaleglgaaGreatDoor

/-
  The walk of the law 'AttrsEdits'.
-/
namespace Go.Proofs.YtiofnjnaleglgaaGreatDoor
open Go.RowKit

theorem mergeErr_zero {l : List At} {a : At} (h : mergeErr l [a] = 0) : rightL l = true ∧ rightB a = true ∧ (mergeL l [a]).length ≤ 100 := by
  cases hr : (rightL l && rightL [a]) with
  | false => rw [mergeErr_bad hr] at h; exact absurd h (by decide)
  | true =>
    rw [Bool.and_eq_true] at hr
    by_cases hn : 100 < (mergeL l [a]).length
    · rw [mergeErr_big (by rw [hr.1, hr.2]; rfl) hn] at h; exact absurd h (by decide)
    · exact ⟨hr.1, rightL_all hr.2 a (List.mem_singleton.2 rfl), by omega⟩
theorem right_len {l : List At} (h : rightL l = true) : l.length ≤ 100 := ((rightL_rise l).1 h).1
theorem merge_nil_ok {l : List At} (h : rightL l = true) : mergeErr l [] = 0 ∧ mergeOut l [] = l := by
  have h0 := mergeErr_ok (l := l) (m := []) (by rw [h]; rfl) (by rw [mergeL_nil_r]; have := right_len h; omega)
  exact ⟨h0, by rw [mergeOut_ok h0, mergeL_nil_r]⟩
theorem nil_merge_ok {l : List At} (h : rightL l = true) : mergeErr [] l = 0 ∧ mergeOut [] l = l := by
  have h0 := mergeErr_ok (l := []) (m := l) (by rw [h]; rfl) (by rw [mergeL_nil]; have := right_len h; omega)
  exact ⟨h0, by rw [mergeOut_ok h0, mergeL_nil]⟩
theorem self_merge_ok {l : List At} (h : rightL l = true) : mergeErr l l = 0 ∧ mergeOut l l = l := by
  have h0 := mergeErr_ok (l := l) (m := l) (by rw [h]; rfl) (by rw [mergeL_self]; have := right_len h; omega)
  exact ⟨h0, by rw [mergeOut_ok h0, mergeL_self]⟩
/-- What was set is got. -/
theorem set_get {l : List At} {a : At} (h : rightL (mergeL l [a]) = true) : findErr (mergeL l [a]) a.name = 0 ∧ getL (mergeL l [a]) a.name = a := by
  obtain ⟨h1, h2⟩ := one_pos (a := a) l
  have h0 := findErr_yes h h1
  exact ⟨h0, by rw [getL_yes h0, h2]⟩
/-- A new name: without it, the list. -/
theorem set_drop {l : List At} {a : At} (h : rightL (mergeL l [a]) = true) (hn : ¬ posL l a.name < l.length) : findErr (mergeL l [a]) a.name = 0 ∧ dropL (mergeL l [a]) a.name = l := by
  obtain ⟨h1, _⟩ := one_pos (a := a) l
  have h0 := findErr_yes h h1
  exact ⟨h0, by unfold dropL; rw [if_pos h0, one_erase hn]⟩

set_option maxHeartbeats 4000000 in
set_option maxRecDepth 100000 in
theorem AttrsEdits_any (so : Option Addr) (l : List At) (c : Nat) (hc : l.length ≤ c) (hc63 : c ≤ 9223372036854775807) (a : At) (v : Value) (ai : Option Addr) (ci : Nat) (ao : Option Addr) (ct : Nat) (w : World) (hl : ListAt w so l) (ha : AttAt w a v ai ci ao ct) (hE : Env w) :
    Calls Tryz.prog 12 #[.slice so l.length c, v] w fun e w' => e = .returned (.bool true) ∧ Below w.heap.size w w' := by
  have hn : l.length ≤ 9223372036854775807 := by omega
  have HE := Lib.hid hE
  have HA := Lib.hid ha
  have HN := Lib.hid hn
  have hv := ha.val
  clear hE ha hc hc63 hn
  subst hv
  have B0 := Lib.hid (alloc_below w (.cells #[.string a.name, .int .i64 a.kind, .int .i64 a.num, .string a.text, .slice ai a.ints.length ci, .slice ao a.texts.length ct] 29))
  have T0 := Lib.hid (heap_alloc_new w (.cells #[.string a.name, .int .i64 a.kind, .int .i64 a.num, .string a.text, .slice ai a.ints.length ci, .slice ao a.texts.length ct] 29))
  have L0 := Lib.hid (hl.below (alloc_below w (.cells #[.string a.name, .int .i64 a.kind, .int .i64 a.num, .string a.text, .slice ai a.ints.length ci, .slice ao a.texts.length ct] 29)))
  clear hl
  go_enter Tryz.func12, Tryz.ntmps12
  go_upto_region 1 with fail
  generalize w.alloc (.cells #[.string a.name, .int .i64 a.kind, .int .i64 a.num, .string a.text, .slice ai a.ints.length ci, .slice ao a.texts.length ct] 29) = w0 at B0 T0 L0 ⊢
  obtain ⟨D, hD⟩ : ∃ D, D = w.heap.size := ⟨_, rfl⟩
  rw [← hD] at T0 ⊢
  clear hD
  go_wp2_with fail
  refine (CheckL_any so l c HN.out w0 L0.out (HE.out.below B0.out)).mono ?_
  rintro e w1 ⟨rfl, hb⟩
  have B1 := Lib.hid (B0.out.trans (hb.mono B0.out.size))
  have T1 := Lib.hid ((hb.block _ (lt_of_block T0.out)).trans T0.out)
  have L1 := Lib.hid (L0.out.below hb)
  clear hb B0 T0 L0
  cases hr : rightL l with
  | false =>
    rw [errL_no hr]
    go_wp2_with fail
    refine (awake2_any _ (HE.out.below B1.out)).mono ?_
    rintro e wz ⟨rfl, hb⟩
    have BZ := Lib.hid (B1.out.trans (hb.mono B1.out.size))
    clear hb
    go_wp2_with fail
    go_ret
    exact ⟨rfl, BZ.out⟩
  | true =>
    rw [errL_yes hr]
    have HR := Lib.hid hr
    have h100 := Lib.hid (show l.length ≤ 1000000 from by have := right_len hr; omega)
    go_wp2_with fail
    refine (Merge_any so none l [] c 0 HN.out (by decide) w1 L1.out (.inl rfl) (HE.out.below B1.out)).mono ?_
    rintro e w2 ⟨x, xc, rfl, hxc, hx, hb⟩
    have B2 := Lib.hid (B1.out.trans (hb.mono B1.out.size))
    have T2 := Lib.hid ((hb.block _ (lt_of_block T1.out)).trans T1.out)
    have L2 := Lib.hid (L1.out.below hb)
    rw [(merge_nil_ok HR.out).2] at hx ⊢
    rw [(merge_nil_ok HR.out).1]
    have X2 := Lib.hid hx
    clear hb hx hxc B1 T1 L1
    go_wp2_with fail
    refine (Merge_any none so [] l 0 c (by decide) HN.out w2 (.inl rfl) L2.out (HE.out.below B2.out)).mono ?_
    rintro e w3 ⟨y, yc, rfl, hyc, hy, hb⟩
    have B3 := Lib.hid (B2.out.trans (hb.mono B2.out.size))
    have T3 := Lib.hid ((hb.block _ (lt_of_block T2.out)).trans T2.out)
    have L3 := Lib.hid (L2.out.below hb)
    have X3 := Lib.hid (X2.out.below hb)
    rw [(nil_merge_ok HR.out).2] at hy ⊢
    rw [(nil_merge_ok HR.out).1]
    have Y3 := Lib.hid hy
    clear hb hy hyc B2 T2 L2 X2
    go_wp2_with fail
    refine (Merge_any so so l l c c HN.out HN.out w3 L3.out L3.out (HE.out.below B3.out)).mono ?_
    rintro e w4 ⟨z, zc, rfl, hzc, hz, hb⟩
    have B4 := Lib.hid (B3.out.trans (hb.mono B3.out.size))
    have T4 := Lib.hid ((hb.block _ (lt_of_block T3.out)).trans T3.out)
    have L4 := Lib.hid (L3.out.below hb)
    have X4 := Lib.hid (X3.out.below hb)
    have Y4 := Lib.hid (Y3.out.below hb)
    rw [(self_merge_ok HR.out).2] at hz ⊢
    rw [(self_merge_ok HR.out).1]
    have Z4 := Lib.hid hz
    clear hb hz hzc B3 T3 L3 X3 Y3
    go_wp2_with fail
    refine (equalLists_same x so l xc c h100.out w4 X4.out L4.out).mono ?_
    rintro e w5 ⟨rfl, hb⟩
    have B5 := Lib.hid (B4.out.trans (hb.mono B4.out.size))
    have T5 := Lib.hid ((hb.block _ (lt_of_block T4.out)).trans T4.out)
    have L5 := Lib.hid (L4.out.below hb)
    have Y5 := Lib.hid (Y4.out.below hb)
    have Z5 := Lib.hid (Z4.out.below hb)
    clear hb B4 T4 L4 X4 Y4 Z4
    go_wp2_with fail
    refine (equalLists_same y so l yc c h100.out w5 Y5.out L5.out).mono ?_
    rintro e w6 ⟨rfl, hb⟩
    have B6 := Lib.hid (B5.out.trans (hb.mono B5.out.size))
    have T6 := Lib.hid ((hb.block _ (lt_of_block T5.out)).trans T5.out)
    have L6 := Lib.hid (L5.out.below hb)
    have Z6 := Lib.hid (Z5.out.below hb)
    clear hb B5 T5 L5 Y5 Z5
    go_wp2_with fail
    refine (equalLists_same z so l zc c h100.out w6 Z6.out L6.out).mono ?_
    rintro e w7 ⟨rfl, hb⟩
    have B7 := Lib.hid (B6.out.trans (hb.mono B6.out.size))
    have T7 := Lib.hid ((hb.block _ (lt_of_block T6.out)).trans T6.out)
    have L7 := Lib.hid (L6.out.below hb)
    clear hb B6 T6 L6 Z6 
    obtain ⟨z0, z1, z2, z3, z4, z5, zf⟩ := cells6 T7.out
    go_wp2_with fail
    refine (Set_any so l c a _ ai ci ao ct HN.out w7 L7.out (HA.out.below B7.out) (HE.out.below B7.out)).mono ?_
    rintro e w8 ⟨s, sc, rfl, hsc, hs, hb⟩
    have B8 := Lib.hid (B7.out.trans (hb.mono B7.out.size))
    have T8 := Lib.hid ((hb.block _ (lt_of_block T7.out)).trans T7.out)
    have L8 := Lib.hid (L7.out.below hb)
    clear hb B7 T7 L7 z0 z1 z2 z3 z4 z5 zf
    by_cases he : mergeErr l [a] = 0
    rotate_left
    · clear hsc hs
      generalize mergeErr l [a] = z at he ⊢
      go_wp2_with fail
      refine (awake2_any _ (HE.out.below B8.out)).mono ?_
      rintro e wz ⟨rfl, hb⟩
      have BZ := Lib.hid (B8.out.trans (hb.mono B8.out.size))
      clear hb
      go_wp2_with fail
      go_ret
      exact ⟨rfl, BZ.out⟩
    · obtain ⟨_, hra, hlen⟩ := mergeErr_zero he
      rw [mergeOut_ok he] at hsc hs ⊢
      rw [he]
      have hrs := one_right HR.out hra hlen
      have HRS := Lib.hid hrs
      have HLEN := Lib.hid hlen
      have hsc2 := Lib.hid hsc
      have S8 := Lib.hid hs
      have HG := Lib.hid (set_get hrs)
      have HSD := Lib.hid (fun h => set_drop (l := l) (a := a) hrs h)
      have HSAME := Lib.hid (fun h => one_same (a := a) ((rightL_rise l).1 HR.out).2.2 h)
      clear he hra hlen hsc hs hrs
      generalize mergeL l [a] = sl at HRS HLEN hsc2 S8 HG HSD HSAME ⊢
      have hsn := Lib.hid (show sl.length ≤ 9223372036854775807 from by have := HLEN.out; omega)
      have c0 := (cells6 T8.out).1
      go_wp2_with fail
      refine (Get_any s sl sc a.name hsn.out w8 S8.out (HE.out.below B8.out)).mono ?_
      rintro e w9 ⟨bv, bi, bci, bo, bct, rfl, hat, hb⟩
      have B9 := Lib.hid (B8.out.trans (hb.mono B8.out.size))
      have T9 := Lib.hid ((hb.block _ (lt_of_block T8.out)).trans T8.out)
      have L9 := Lib.hid (L8.out.below hb)
      have S9 := Lib.hid (S8.out.below hb)
      rw [HG.out.1]
      rw [HG.out.2] at hat
      have hbv := hat.val
      subst hbv
      have HB9 := Lib.hid hat
      clear hb hat B8 T8 L8 S8 c0
      have B10 := Lib.hid (B9.out.alloc B9.out.size (.cells #[.string a.name, .int .i64 a.kind, .int .i64 a.num, .string a.text, .slice bi a.ints.length bci, .slice bo a.texts.length bct] 29))
      have T10 := Lib.hid ((Below.heap_alloc w9 (.cells #[.string a.name, .int .i64 a.kind, .int .i64 a.num, .string a.text, .slice bi a.ints.length bci, .slice bo a.texts.length bct] 29) _ (lt_of_block T9.out)).trans T9.out)
      have L10 := Lib.hid (L9.out.below (alloc_below w9 (.cells #[.string a.name, .int .i64 a.kind, .int .i64 a.num, .string a.text, .slice bi a.ints.length bci, .slice bo a.texts.length bct] 29)))
      have S10 := Lib.hid (S9.out.below (alloc_below w9 (.cells #[.string a.name, .int .i64 a.kind, .int .i64 a.num, .string a.text, .slice bi a.ints.length bci, .slice bo a.texts.length bct] 29)))
      have U10 := Lib.hid (heap_alloc_new w9 (.cells #[.string a.name, .int .i64 a.kind, .int .i64 a.num, .string a.text, .slice bi a.ints.length bci, .slice bo a.texts.length bct] 29))
      have HB10 := Lib.hid (HB9.out.below (alloc_below w9 (.cells #[.string a.name, .int .i64 a.kind, .int .i64 a.num, .string a.text, .slice bi a.ints.length bci, .slice bo a.texts.length bct] 29)))
      go_upto_region 12 with fail
      generalize w9.alloc (.cells #[.string a.name, .int .i64 a.kind, .int .i64 a.num, .string a.text, .slice bi a.ints.length bci, .slice bo a.texts.length bct] 29) = w10 at B10 T10 L10 S10 U10 HB10 ⊢
      generalize w9.heap.size = F at U10 ⊢
      clear B9 T9 L9 S9 HB9
      obtain ⟨z0, z1, z2, z3, z4, z5, zf⟩ := cells6 T10.out
      obtain ⟨y0, y1, y2, y3, y4, y5, yf⟩ := cells6 U10.out
      go_wp2_with fail
      refine (equal_same a _ _ ai ci ao ct bi bci bo bct w10 (HA.out.below B10.out) HB10.out).mono ?_
      rintro e w11 ⟨rfl, hb⟩
      have B11 := Lib.hid (B10.out.trans (hb.mono B10.out.size))
      have T11 := Lib.hid ((hb.block _ (lt_of_block T10.out)).trans T10.out)
      have L11 := Lib.hid (L10.out.below hb)
      have S11 := Lib.hid (S10.out.below hb)
      clear hb B10 T10 L10 S10 U10 HB10 z0 z1 z2 z3 z4 z5 zf y0 y1 y2 y3 y4 y5 yf
      go_wp2_with fail
      refine (CheckL_any s sl sc hsn.out w11 S11.out (HE.out.below B11.out)).mono ?_
      rintro e w12 ⟨rfl, hb⟩
      have B12 := Lib.hid (B11.out.trans (hb.mono B11.out.size))
      have T12 := Lib.hid ((hb.block _ (lt_of_block T11.out)).trans T11.out)
      have L12 := Lib.hid (L11.out.below hb)
      have S12 := Lib.hid (S11.out.below hb)
      rw [errL_yes HRS.out]
      clear hb B11 T11 L11 S11
      have c0 := (cells6 T12.out).1
      go_wp2_with fail
      refine (Get_any so l c a.name HN.out w12 L12.out (HE.out.below B12.out)).mono ?_
      rintro e w13 ⟨gv, gi, gci, go, gct, rfl, hat, hb⟩
      have B13 := Lib.hid (B12.out.trans (hb.mono B12.out.size))
      have T13 := Lib.hid ((hb.block _ (lt_of_block T12.out)).trans T12.out)
      have L13 := Lib.hid (L12.out.below hb)
      have S13 := Lib.hid (S12.out.below hb)
      have hgv := hat.val
      clear hat hb B12 T12 L12 S12 c0
      generalize getL l a.name = ga at hgv
      subst hgv
      have B14 := Lib.hid (B13.out.alloc B13.out.size (.cells #[.string ga.name, .int .i64 ga.kind, .int .i64 ga.num, .string ga.text, .slice gi ga.ints.length gci, .slice go ga.texts.length gct] 29))
      have T14 := Lib.hid ((Below.heap_alloc w13 (.cells #[.string ga.name, .int .i64 ga.kind, .int .i64 ga.num, .string ga.text, .slice gi ga.ints.length gci, .slice go ga.texts.length gct] 29) _ (lt_of_block T13.out)).trans T13.out)
      have L14 := Lib.hid (L13.out.below (alloc_below w13 (.cells #[.string ga.name, .int .i64 ga.kind, .int .i64 ga.num, .string ga.text, .slice gi ga.ints.length gci, .slice go ga.texts.length gct] 29)))
      have S14 := Lib.hid (S13.out.below (alloc_below w13 (.cells #[.string ga.name, .int .i64 ga.kind, .int .i64 ga.num, .string ga.text, .slice gi ga.ints.length gci, .slice go ga.texts.length gct] 29)))
      by_cases hp : posL l a.name < l.length
      · rw [findErr_yes HR.out hp]
        have hsame := HSAME.out hp
        clear hp
        go_upto_region 15 with fail
        generalize w13.alloc (.cells #[.string ga.name, .int .i64 ga.kind, .int .i64 ga.num, .string ga.text, .slice gi ga.ints.length gci, .slice go ga.texts.length gct] 29) = w14 at B14 T14 L14 S14 ⊢
        clear B13 T13 L13 S13
        have hsi : (sl.length : Int) = (l.length : Int) := by omega
        try rw [hsame]
        go_wp2_with fail
        refine (awake2_any _ (HE.out.below B14.out)).mono ?_
        rintro e wz ⟨rfl, hb⟩
        have BZ := Lib.hid (B14.out.trans (hb.mono B14.out.size))
        clear hb
        go_wp2_with fail
        go_ret
        exact ⟨rfl, BZ.out⟩
      · rw [findErr_no HR.out hp]
        have HDR := Lib.hid (HSD.out hp)
        clear hp
        go_upto_region 15 with fail
        generalize w13.alloc (.cells #[.string ga.name, .int .i64 ga.kind, .int .i64 ga.num, .string ga.text, .slice gi ga.ints.length gci, .slice go ga.texts.length gct] 29) = w14 at B14 T14 L14 S14 ⊢
        clear B13 T13 L13 S13
        have c0 := (cells6 T14.out).1
        go_wp2_with fail
        refine (Drop_any s sl sc a.name (by have := hsc2.out; omega) (by have := hsc2.out; have := HLEN.out; omega) w14 S14.out (HE.out.below B14.out)).mono ?_
        rintro e w15 ⟨d, dc, rfl, hdc, hd, hb⟩
        rw [HDR.out.2] at hdc hd ⊢
        rw [HDR.out.1]
        have B15 := Lib.hid (B14.out.trans (hb.mono B14.out.size))
        have L15 := Lib.hid (L14.out.below hb)
        have D15 := Lib.hid hd
        clear hb hd hdc B14 T14 L14 S14 c0
        go_wp2_with fail
        refine (equalLists_same d so l dc c h100.out w15 D15.out L15.out).mono ?_
        rintro e w16 ⟨rfl, hb⟩
        have B16 := Lib.hid (B15.out.trans (hb.mono B15.out.size))
        clear hb B15 L15 D15
        go_wp2_with fail
        refine (awake2_any _ (HE.out.below B16.out)).mono ?_
        rintro e wz ⟨rfl, hb⟩
        have BZ := Lib.hid (B16.out.trans (hb.mono B16.out.size))
        clear hb
        go_wp2_with fail
        go_ret
        exact ⟨rfl, BZ.out⟩
end Go.Proofs.YtiofnjnaleglgaaGreatDoor

