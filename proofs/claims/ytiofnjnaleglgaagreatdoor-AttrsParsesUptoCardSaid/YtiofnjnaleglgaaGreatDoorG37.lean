/-
  Texts of mine in one file: AtPC.
-/
import Derived.Test.YtiofnjnaleglgaaGreatDoorG25
import Derived.Test.YtiofnjnaleglgaaGreatDoorG30
/-
  What an item of a list's text tells: its name and the string of its value.
-/
namespace Go.Proofs.YtiofnjnaleglgaaGreatDoor
open Go.RowKit

theorem blank_part : ∀ c : UInt8, bPart c = true → c ≠ 32 := by
  refine byte_cases ?_
  decide +kernel
theorem index_item : ∀ (nm v : List UInt8), (∀ c ∈ nm, c ≠ 32) → Lib.index (nm ++ (32 :: 61 :: 32 :: v)) [32, 61, 32] = (nm.length : Int)
  | [], v, _ => by
    rw [List.nil_append, Lib.index, if_pos (by simp [List.isPrefixOf])]; rfl
  | b :: nm, v, h => by
    have hb : (32 : UInt8) ≠ b := Ne.symm (h b (List.mem_cons_self ..))
    have ih := index_item nm v (fun c hc => h c (List.mem_cons_of_mem _ hc))
    rw [List.cons_append, Lib.index, if_neg (by simp [List.isPrefixOf, hb]), ih, if_neg (by simp), List.length_cons]
    omega
theorem cut_item {a : At} (h : rightB a = true) : Lib.cut (itemL a) [32, 61, 32] = (a.name.data.toList, valueL a, true) := by
  have hn := (right_cases h).1
  have hi := index_item a.name.data.toList (valueL a) (fun c hc => blank_part c (List.all_eq_true.1 ((isNameR_iff _).1 hn).2.2 c hc))
  have he : itemL a = a.name.data.toList ++ (32 :: 61 :: 32 :: valueL a) := rfl
  unfold Lib.cut
  rw [he, hi, if_pos (by omega), Int.toNat_natCast, List.take_left]
  have : (a.name.data.toList ++ 32 :: 61 :: 32 :: valueL a).drop (a.name.data.toList.length + [32, 61, 32].length) = valueL a := by
    rw [show a.name.data.toList ++ 32 :: 61 :: 32 :: valueL a = (a.name.data.toList ++ [32, 61, 32]) ++ valueL a by simp]
    exact List.drop_left' (by simp)
  exact congrArg (fun z => (a.name.data.toList, z, true)) this
theorem trim_item {a : At} (h : rightB a = true) : Lib.trimPrefix (itemL a) [32] = itemL a := by
  have hn := (isNameR_iff _).1 (right_cases h).1
  unfold Lib.trimPrefix Lib.hasPrefix
  rw [if_neg]
  unfold itemL
  cases hl : a.name.data.toList with
  | nil => rw [hl] at hn; exact absurd hn.2.1 (by decide)
  | cons c t =>
    rw [hl] at hn
    have hc : (32 : UInt8) ≠ c := Ne.symm (blank_part c (List.all_eq_true.1 hn.2.2 c (List.mem_cons_self ..)))
    simp [List.isPrefixOf, hc]
theorem trim_blank (x : List UInt8) : Lib.trimPrefix (32 :: x) [32] = x := (trimPrefix_app [32] x).2
theorem pieces_length : ∀ L : List At, (piecesL L).length = L.length
  | [] => rfl
  | a :: l => by simp [piecesL]
theorem piece_at {L : List At} {k : Nat} {p : List UInt8} (h : (piecesL L)[k]? = some p) : k < L.length ∧ (p = itemL (nth L k) ∨ p = 32 :: itemL (nth L k)) := by
  have hk : k < L.length := by rw [← pieces_length]; exact (List.getElem?_eq_some_iff.1 h).1
  refine ⟨hk, ?_⟩
  cases L with
  | nil => exact absurd hk (Nat.not_lt_zero _)
  | cons a l =>
    unfold piecesL at h
    cases k with
    | zero => exact .inl ((Option.some.inj h).symm)
    | succ k =>
      have hk' : k < l.length := by simpa using hk
      right
      rw [List.getElem?_cons_succ, List.getElem?_map, List.getElem?_eq_getElem hk'] at h
      have : nth (a :: l) (k + 1) = l[k] := by unfold nth; rw [List.getElem?_cons_succ, List.getElem?_eq_getElem hk']; rfl
      rw [this]
      simpa using h.symm
/-- An item of the text of a right list: its name and its value's string. -/
theorem piece_cut {L : List At} (hr : rightL L = true) {k : Nat} {p : List UInt8} (h : (piecesL L)[k]? = some p) : k < L.length ∧ Lib.cut (Lib.trimPrefix p [32]) [32, 61, 32] = ((nth L k).name.data.toList, valueL (nth L k), true) := by
  obtain ⟨hk, hp⟩ := piece_at h
  have ha := rightL_all hr (nth L k) (by rw [nth_get hk]; exact List.getElem_mem hk)
  refine ⟨hk, ?_⟩
  rcases hp with rfl | rfl
  · rw [trim_item ha, cut_item ha]
  · rw [trim_blank, cut_item ha]

/-- A right list whose text a string is. -/
structure Good (s : ByteArray) (L : List At) : Prop where
  right : rightL L = true
  wf : ∀ a ∈ L, a.Wf
  text : listL L = s.data.toList
theorem Good.body {s : ByteArray} {L : List At} (h : Good s L) (hs : s ≠ ⟨#[]⟩) : L ≠ [] ∧ s.data.toList = [123] ++ (bodyL L ++ [125]) := by
  have ht := h.text
  unfold listL at ht
  split at ht
  · exact absurd (bytes_inj (a := s) (b := ⟨#[]⟩) ht.symm) hs
  · rename_i hne
    exact ⟨hne, ht.symm⟩

/-! ### How far a list has been read -/
/-- So much of a right list's pieces have come: what has been read is so much of the list. -/
def ReadTo (s : ByteArray) (pcs : List (List UInt8)) (zs : List At) : Prop := ∀ L, Good s L → pcs <+: piecesL L → zs = L.take pcs.length
theorem readTo_nil (s : ByteArray) : ReadTo s [] [] := fun _ _ _ => rfl
theorem pre_at {α : Type} {a : List α} {x : α} {l : List α} (h : a ++ [x] <+: l) : l[a.length]? = some x := by
  obtain ⟨t, rfl⟩ := h
  simp
theorem pre_of_snoc {α : Type} {a : List α} {x : α} {l : List α} (h : a ++ [x] <+: l) : a <+: l := (List.prefix_append a [x]).trans h
/-- One piece more that is read. -/
theorem ReadTo.next {s : ByteArray} {pcs : List (List UInt8)} {zs : List At} (h : ReadTo s pcs zs) {p : List UInt8} {a : At} (hn : a.name.data.toList = (Lib.cut (Lib.trimPrefix p [32]) [32, 61, 32]).1) (hv : valueL a = (Lib.cut (Lib.trimPrefix p [32]) [32, 61, 32]).2.1)
    (huniq : ∀ b : At, rightB b = true → b.Wf → b.name = a.name → valueL b = valueL a → b = a) : ReadTo s (pcs ++ [p]) (zs ++ [a]) := by
  intro L hg hp
  have h1 := h L hg (pre_of_snoc hp)
  obtain ⟨hk, hc⟩ := piece_cut hg.right (pre_at hp)
  rw [hc] at hn hv
  have hm : nth L pcs.length ∈ L := by rw [nth_get hk]; exact List.getElem_mem hk
  have he := huniq _ (rightL_all hg.right _ hm) (hg.wf _ hm) (bytes_inj hn.symm) hv.symm
  rw [List.length_append, List.length_singleton, List.take_add_one, ← h1, List.getElem?_eq_getElem hk]
  rw [nth_get hk] at he
  rw [he]
  rfl
/-- A piece that can't be read: no right list has this text. -/
theorem readTo_fails {s : ByteArray} {pcs : List (List UInt8)} {p : List UInt8} {nm : ByteArray} (hn : nm.data.toList = (Lib.cut (Lib.trimPrefix p [32]) [32, 61, 32]).1) (h : ∀ b : At, rightB b = true → b.Wf → b.name = nm → valueL b ≠ (Lib.cut (Lib.trimPrefix p [32]) [32, 61, 32]).2.1) :
    ∀ L, Good s L → ¬ pcs ++ [p] <+: piecesL L := by
  intro L hg hp
  obtain ⟨hk, hc⟩ := piece_cut hg.right (pre_at hp)
  have hm : nth L pcs.length ∈ L := by rw [nth_get hk]; exact List.getElem_mem hk
  refine h _ (rightL_all hg.right _ hm) (hg.wf _ hm) (bytes_inj ?_) ?_
  · rw [hn, hc]
  · rw [hc]
/-- One attribute too many. -/
theorem readTo_many {s : ByteArray} {pcs : List (List UInt8)} {p : List UInt8} (hl : 100 ≤ pcs.length) : ∀ L, Good s L → ¬ pcs ++ [p] <+: piecesL L := by
  intro L hg hp
  obtain ⟨hk, _⟩ := piece_cut hg.right (pre_at hp)
  have := ((rightL_iff L).1 hg.right).1
  omega
/-! ### The library's calls on an item -/
theorem trim1_some (x : ByteArray) (w : World) : Calls Tryz.prog 88 #[.string x, .string ⟨#[32]⟩] w fun e w' =>
    ∃ t : ByteArray, e = .returned (.string t) ∧ Hid (t.data.toList = Lib.trimPrefix x.data.toList [32]) ∧ t.size ≤ x.size ∧ w = w' :=
  (Tryz.strings_TrimPrefix x ⟨#[32]⟩ w).mono fun _ _ ⟨he, hw⟩ => ⟨_, he, rfl, by
    rw [mk_size, size_eq]
    show (Lib.trimPrefix x.data.toList [32]).length ≤ _
    unfold Lib.trimPrefix
    split
    · rw [List.length_drop]; omega
    · exact Nat.le_refl _, hw.symm⟩
theorem cut3_some (x : ByteArray) (hs : x.size < 4294967281) (w : World) (hE : Env w) : Calls Tryz.prog 87 #[.string x, .string ⟨#[32, 61, 32]⟩] w fun e w' =>
    ∃ (nm v : ByteArray) (ok : Bool), e = .returned (.tuple #[.string nm, .string v, .bool ok]) ∧ Hid (nm.data.toList = (Lib.cut x.data.toList [32, 61, 32]).1) ∧ Hid (v.data.toList = (Lib.cut x.data.toList [32, 61, 32]).2.1) ∧ v.size ≤ x.size ∧ Below w.heap.size w w' := by
  obtain ⟨m, hm⟩ := mx_cell hE
  refine (Tryz.strings_Cut x ⟨#[32, 61, 32]⟩ m w hs hm).mono ?_
  rintro e w' ⟨rfl, n, rfl⟩
  refine ⟨_, _, _, rfl, rfl, rfl, ?_, drewN_below w n⟩
  rw [mk_size, size_eq]
  show (Lib.cut x.data.toList [32, 61, 32]).2.1.length ≤ _
  unfold Lib.cut
  split
  · rw [List.length_drop]; omega
  · exact Nat.zero_le _
end Go.Proofs.YtiofnjnaleglgaaGreatDoor

