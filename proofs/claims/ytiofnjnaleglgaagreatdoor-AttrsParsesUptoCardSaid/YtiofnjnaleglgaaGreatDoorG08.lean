/-
  Texts of mine in one file: J, Q.
-/
import Derived.Test.YtiofnjnaleglgaaGreatDoorG06
import Derived.Test.YtiofnjnaleglgaaGreatDoorG07
import Derived.Lib.Split
/-
  'shaped' and what is asked of memory and array types; 'Range', 'Wrap' and 'Unsigned', by contracts.
-/
namespace Go.Proofs.YtiofnjnaleglgaaGreatDoor
open Go.RowKit
section
variable {s el : ByteArray} {k b e0 e1 e2 : Int} {r : Nat}

theorem ty_bits {B : Nat} (h : Ty s k B r e0 e1 e2 el) : B ≤ 64 := by have := (desc_wf h.is).2.1.2; omega
theorem end3 {x y x' y' : Int} {w w' : World} (h1 : x = x') (h2 : y = y') (hb : Below w.heap.size w w') :
    Ending.returned (.tuple #[.int .i64 x, .int .i64 y, .int .i64 0]) = .returned (.tuple #[.int .i64 x', .int .i64 y', .int .i64 0]) ∧ Below w.heap.size w w' := ⟨by rw [h1, h2], hb⟩
theorem end2 {q : IntKind} {x x' : Int} {w w' : World} (h1 : x = x') (hb : Below w.heap.size w w') :
    Ending.returned (.tuple #[.int q x, .int .i64 0]) = .returned (.tuple #[.int q x', .int .i64 0]) ∧ Below w.heap.size w w' := ⟨by rw [h1], hb⟩

end
end Go.Proofs.YtiofnjnaleglgaaGreatDoor

/-
  'areTypes' and 'Split' by contracts.
-/
namespace Go.Proofs.YtiofnjnaleglgaaGreatDoor
open Go.RowKit

/-- Whether a string is a type. -/
def isTy (l : List UInt8) : Bool := !((descSpec l).k == 0 && (descSpec l).b == 0)
theorem isTy_no {s : ByteArray} (h : isTy s.data.toList = false) : NoTy s := by
  unfold isTy at h
  rcases desc_cases s.data.toList with hc | ⟨_, hk | ⟨hk, hb⟩⟩
  · exact hc
  · simp [hk] at h
  · simp [hk, hb] at h
theorem isTy_yes {s : ByteArray} (h : isTy s.data.toList = true) : ∃ k b r e0 e1 e2 el, Ty s k b r e0 e1 e2 el := by
  unfold isTy at h
  refine ⟨(descSpec s.data.toList).k, (descSpec s.data.toList).b, (descSpec s.data.toList).r, (descSpec s.data.toList).e0, (descSpec s.data.toList).e1, (descSpec s.data.toList).e2, ⟨(descSpec s.data.toList).el.toArray⟩, rfl, fun hn => ?_⟩
  simp [hn.1, hn.2] at h
theorem isTy_of {s : ByteArray} {k b e0 e1 e2 : Int} {r : Nat} {el : ByteArray} (h : Ty s k b r e0 e1 e2 el) : isTy s.data.toList = true := by
  unfold isTy
  rw [h.is]
  have := h.nz
  cases hk : (k == 0) <;> cases hb : (b == 0) <;> simp_all
theorem isTy_not {s : ByteArray} (h : NoTy s) : isTy s.data.toList = false := by
  unfold isTy
  rw [show descSpec s.data.toList = descZero from h]
  rfl

/-- A slice that came in, or was made, holds these strings. -/
def StrsAt (w : World) (ao : Option Addr) (ss : List ByteArray) : Prop := ss = [] ∨ ∃ a, ao = some a ∧ ∀ j, j < ss.length → w.cell? (a.add j) = some (.string (ss[j]?.getD ByteArray.empty))
theorem StrsAt.below {w w' : World} {ao : Option Addr} {ss : List ByteArray} (h : StrsAt w ao ss) (hb : Below w.heap.size w w') : StrsAt w' ao ss := by
  rcases h with h | ⟨a, rfl, hc⟩
  · exact .inl h
  · refine .inr ⟨a, rfl, fun j hj => ?_⟩
    have := hc j hj
    exact (hb.cell (block_lt_of_cell this)).trans this

theorem all_at {ss : List ByteArray} {m : Nat} (hm : m < ss.length) (h : isTy (ss[m]?.getD ByteArray.empty).data.toList = false) : ss.all (fun s => isTy s.data.toList) = false := by
  rw [List.getElem?_eq_getElem hm] at h
  rw [List.all_eq_false]
  exact ⟨_, List.getElem_mem hm, by simpa using h⟩

set_option maxHeartbeats 400000 in
set_option maxRecDepth 100000 in
theorem areTypes_any (ao : Option Addr) (ss : List ByteArray) (c : Nat) (hn : ss.length ≤ 9223372036854775807) (w : World) (hz : StrsAt w ao ss) (hE : Env w) :
    Calls Tryz.prog 143 #[.slice ao ss.length c] w fun e w' => e = .returned (.bool (ss.all fun s => isTy s.data.toList)) ∧ Below w.heap.size w w' := by
  have Hz := Lib.hid hz
  have HE := Lib.hid hE
  clear hz hE
  go_enter Tryz.func143, Tryz.ntmps143
  go_wp2_with fail
  go_loopw [7] (fun i wr => ∃ m : Nat, m ≤ ss.length ∧ i = .int .i64 m ∧ Hid (∀ j, j < m → isTy (ss[j]?.getD ByteArray.empty).data.toList = true) ∧ Hid (Below w.heap.size w wr)) (fun i _ => ss.length - (intOf i).toNat)
  case atStart => exact ⟨0, Nat.zero_le _, rfl, fun j hj => absurd hj (Nat.not_lt_zero _), Below.refl _ _⟩
  case round =>
    obtain ⟨m, hm, rfl, hall, HB⟩ := hrel
    by_cases hlt : m < ss.length
    · rcases Hz.out.below HB.out with h0 | ⟨a, rfl, hc⟩
      · rw [h0] at hlt; exact absurd hlt (Nat.not_lt_zero _)
      have hcm := hc m hlt
      clear hc
      obtain ⟨s, hs⟩ : ∃ s, s = ss[m]?.getD ByteArray.empty := ⟨_, rfl⟩
      rw [← hs] at hcm
      have HS := Lib.hid hs
      clear hs
      cases hty : isTy s.data.toList
      · have hno := isTy_no hty
        have hf := Lib.hid (show ss.all (fun s => isTy s.data.toList) = false from all_at hlt (by rw [← HS.out]; exact hty))
        have HT := Lib.hid hty
        clear hty
        go_wp2_with fail
        refine (Check_no hno _ (HE.out.below HB.out)).mono ?_
        rintro e w2 ⟨rfl, hb2⟩
        have HB2 := Lib.hid (HB.out.trans (hb2.mono HB.out.size))
        clear hb2
        go_wp2_with fail
        go_ret
        exact ⟨by rw [hf.out]; rfl, HB2.out⟩
      · obtain ⟨k, b, r, e0, e1, e2, el, hT⟩ := isTy_yes hty
        have HT := Lib.hid hty
        clear hty
        go_wp2_with fail
        refine (Check_yes hT _ (HE.out.below HB.out)).mono ?_
        rintro e w2 ⟨rfl, hb2⟩
        have HB2 := Lib.hid (HB.out.trans (hb2.mono HB.out.size))
        clear hb2
        go_wp2_with fail
        go_roundw
        case rel => exact ⟨m + 1, by omega, by go_num, fun j hj => (Nat.lt_succ_iff_lt_or_eq.1 hj).elim (hall.out j) (fun e => by subst e; rw [← HS.out]; exact HT.out), HB2.out⟩
        case measure => simp [intOf]; omega
    · obtain rfl : m = ss.length := by omega
      have hf := Lib.hid (show ss.all (fun s => isTy s.data.toList) = true by
        rw [List.all_eq_true]
        intro s hs
        obtain ⟨j, hj, rfl⟩ := List.mem_iff_getElem.1 hs
        have := hall.out j hj
        rwa [List.getElem?_eq_getElem hj] at this)
      go_wp2_with fail
      go_ret
      exact ⟨by rw [hf.out]; rfl, HB.out⟩

/-- What 'Split' cuts out of a list of types: nothing where the brackets lack. -/
def splitInner (l : List UInt8) : Option (List UInt8) :=
  if Lib.hasPrefix l [40] = true ∧ Lib.hasSuffix (Lib.trimPrefix l [40]) [41] = true then some (Lib.trimSuffix (Lib.trimPrefix l [40]) [41]) else none
/-- The types of a list of types. -/
def splitParts (l : List UInt8) : List ByteArray := Lib.splitB ⟨#[44, 32]⟩ 0 (min 101 (l.length + 1) - 1) ⟨l.toArray⟩

theorem splitB_len (sep : ByteArray) : ∀ (k : Nat) (s : ByteArray), (Lib.splitB sep 0 k s).length ≤ k + 1
  | 0, s => by simp [Lib.splitB]
  | k + 1, s => by
    unfold Lib.splitB
    split
    · simp
    · have := splitB_len sep k (s.extract ((Lib.indexB s sep).toNat + sep.size) s.size)
      simp
      omega
theorem parts_len (l : List UInt8) : (splitParts l).length ≤ 101 := by
  have := splitB_len ⟨#[44, 32]⟩ (min 101 (l.length + 1) - 1) ⟨l.toArray⟩
  unfold splitParts
  omega

theorem mx_cell {w : World} (hE : Env w) : ∃ m : Int, w.cell? ⟨0, 0, none⟩ = some (.int .i64 m) := by
  obtain ⟨m, hm⟩ := hE.mx
  exact ⟨m, by have := World.var?_cell g_mx hm 0; simpa using this⟩

theorem cutPrefix_some (s p : ByteArray) (w : World) : Calls Tryz.prog 112 #[.string s, .string p] w fun e w' =>
    ∃ (t : ByteArray) (ok : Bool), e = .returned (.tuple #[.string t, .bool ok]) ∧ Hid (t.data.toList = Lib.trimPrefix s.data.toList p.data.toList) ∧ Hid (Lib.hasPrefix s.data.toList p.data.toList = ok) ∧ w = w' :=
  (Tryz.strings_CutPrefix s p w).mono fun _ _ ⟨he, hw⟩ => ⟨_, _, he, rfl, rfl, hw.symm⟩
theorem cutSuffix_some (s p : ByteArray) (hs : s.size ≤ 9223372036854775807) (w : World) : Calls Tryz.prog 113 #[.string s, .string p] w fun e w' =>
    ∃ (t : ByteArray) (ok : Bool), e = .returned (.tuple #[.string t, .bool ok]) ∧ Hid (t.data.toList = Lib.trimSuffix s.data.toList p.data.toList) ∧ Hid (Lib.hasSuffix s.data.toList p.data.toList = ok) ∧ w = w' :=
  (Tryz.strings_CutSuffix s p w hs).mono fun _ _ ⟨he, hw⟩ => ⟨_, _, he, rfl, rfl, hw.symm⟩

/-- 'strings.SplitN' as 'Split' calls it. -/
theorem splitN_some (s : ByteArray) (hs : s.size < 4294967281) (w : World) (hE : Env w) : Calls Tryz.prog 125 #[.string s, .string ⟨#[44, 32]⟩, .int .i64 101] w fun e w' =>
    ∃ (ao : Option Addr) (n c : Nat), e = .returned (.slice ao n c) ∧ Hid (n = (splitParts s.data.toList).length) ∧ Hid (StrsAt w' ao (splitParts s.data.toList)) ∧ Below w.heap.size w w' := by
  obtain ⟨m, hm⟩ := mx_cell hE
  refine (Tryz.strings_SplitN s ⟨#[44, 32]⟩ 101 m w hs hm (by decide) (by omega) (by omega)).mono ?_
  rintro e w' ⟨rfl, rfl⟩
  have e1 : splitParts s.data.toList = Lib.splitB ⟨#[44, 32]⟩ 0 (min 101 (s.size + 1) - 1) s := by
    unfold splitParts
    rw [← size_eq]
  refine ⟨_, _, _, rfl, by rw [e1]; rfl, ?_, (Below.refl _ _).alloc (Nat.le_refl _) _⟩
  rw [← e1]
  refine .inr ⟨_, rfl, fun j hj => ?_⟩
  rw [Addr.add_lit, Nat.zero_add]
  have hc : (Lib.cellsOf (splitParts s.data.toList) (min 101 (s.size + 1)))[j]? = some (.string ((splitParts s.data.toList)[j]?.getD ByteArray.empty)) := by
    unfold Lib.cellsOf
    rw [List.getElem?_toArray, List.getElem?_append_left (by simpa using hj), List.getElem?_map, List.getElem?_eq_getElem hj]
    rfl
  have hb := heap_alloc_new w (.cells (Lib.cellsOf (splitParts s.data.toList) (min 101 (s.size + 1))) 9)
  rw [cell_of_row _ _ j _ _ _ hb, hc]

set_option maxHeartbeats 400000 in
set_option maxRecDepth 100000 in
theorem Split_none (s : ByteArray) (hs : s.size ≤ 140737488355328) (h : splitInner s.data.toList = none) (w : World) :
    Calls Tryz.prog 127 #[.string s] w fun e w' => e = .returned (.tuple #[.slice none 0 0, .int .i64 10]) ∧ w = w' := by
  have H := Lib.hid h
  clear h
  go_enter Tryz.func127, Tryz.ntmps127
  go_wp2_with fail
  refine (cutPrefix_some _ _ _).mono ?_
  rintro e w1 ⟨t, ok, rfl, ht, hok, rfl⟩
  have hts : t.size ≤ 140737488355328 := by
    rw [size_eq, ht.out]; have := Lib.trimPrefix_le s.data.toList [40]; rw [size_eq] at hs; exact Nat.le_trans this hs
  go_wp2_with fail
  refine (cutSuffix_some _ _ (by omega) _).mono ?_
  rintro e w1 ⟨u, ok2, rfl, hu, hok2, rfl⟩
  cases ok
  · go_wp2_with fail
    go_ret2
    exact ⟨rfl, rfl⟩
  · cases ok2
    · go_wp2_with fail
      go_ret2
      exact ⟨rfl, rfl⟩
    · have := H.out
      rw [splitInner, if_pos ⟨hok.out, by rw [← ht.out]; exact hok2.out⟩] at this
      cases this

/-- Whether the parts are the types of a list. -/
def partsOk (l : List UInt8) : Bool := decide ((splitParts l).length ≤ 100) && (splitParts l).all (fun s => isTy s.data.toList)

def SplitPost (l : List UInt8) (w : World) (e : Ending) (w' : World) : Prop :=
  Below w.heap.size w w' ∧ ((l = [] ∧ e = .returned (.tuple #[.slice none 0 0, .int .i64 0])) ∨ (¬ l = [] ∧ partsOk l = false ∧ e = .returned (.tuple #[.slice none 0 0, .int .i64 10])) ∨
    (¬ l = [] ∧ partsOk l = true ∧ ∃ (ao : Option Addr) (c : Nat), e = .returned (.tuple #[.slice ao (splitParts l).length c, .int .i64 0]) ∧ StrsAt w' ao (splitParts l)))

set_option maxHeartbeats 400000 in
set_option maxRecDepth 100000 in
theorem Split_some (s : ByteArray) (hs : s.size < 4294967281) (l : List UInt8) (h : splitInner s.data.toList = some l) (w : World) (hE : Env w) :
    Calls Tryz.prog 127 #[.string s] w (SplitPost l w) := by
  have H := Lib.hid h
  have HE := Lib.hid hE
  clear h hE
  go_enter Tryz.func127, Tryz.ntmps127
  go_wp2_with fail
  refine (cutPrefix_some _ _ _).mono ?_
  rintro e w1 ⟨t, ok, rfl, ht, hok, rfl⟩
  have hts : t.size < 4294967281 := by
    rw [size_eq, ht.out]; have := Lib.trimPrefix_le s.data.toList [40]; rw [size_eq] at hs; exact Nat.lt_of_le_of_lt this hs
  go_wp2_with fail
  refine (cutSuffix_some _ _ (by omega) _).mono ?_
  rintro e w1 ⟨u, ok2, rfl, hu, hok2, rfl⟩
  have hus : u.size < 4294967281 := by
    rw [size_eq, hu.out]; have := Lib.trimSuffix_le t.data.toList [41]; rw [size_eq] at hts; exact Nat.lt_of_le_of_lt this hts
  have both : ok = true ∧ ok2 = true ∧ u.data.toList = l := by
    have := H.out
    unfold splitInner at this
    split at this
    · rename_i hb
      have h1 : ok = true := hok.out.symm.trans hb.1
      have h2 : ok2 = true := hok2.out.symm.trans (by rw [ht.out]; exact hb.2)
      refine ⟨h1, h2, ?_⟩
      rw [hu.out, ht.out]
      exact Option.some.inj this
    · cases this
  obtain ⟨rfl, rfl, hul⟩ := both
  have HU := Lib.hid hul
  clear hul
  cases hue : u.toList.isEmpty
  · have hne := Lib.hid (show ¬ l = [] by rw [← HU.out]; exact nonempty_of hue)
    go_wp2_with fail
    refine (splitN_some u hus _ HE.out).mono ?_
    rintro e w2 ⟨ao, n, c, rfl, hn, hst, hb2⟩
    have HB2 := Lib.hid hb2
    clear hb2
    have hn101 : n ≤ 101 := by rw [hn.out]; exact parts_len _
    by_cases hlong : 100 < n
    · have hf := Lib.hid (show partsOk l = false by rw [partsOk, ← HU.out, ← hn.out, decide_eq_false (by omega)]; rfl)
      go_wp2_with fail
      go_ret2
      exact ⟨HB2.out, .inr (.inl ⟨hne.out, hf.out, rfl⟩)⟩
    · obtain ⟨ss, hss⟩ : ∃ ss, ss = splitParts u.data.toList := ⟨_, rfl⟩
      have HS := Lib.hid hss
      rw [← hss] at hn hst
      clear hss
      obtain rfl : n = ss.length := hn.out
      clear hn
      go_wp2_with fail
      refine (areTypes_any ao ss c (by omega) _ hst.out (HE.out.below HB2.out)).mono ?_
      rintro e w3 ⟨rfl, hb3⟩
      have HB3 := Lib.hid (HB2.out.trans (hb3.mono HB2.out.size))
      have hst3 := Lib.hid (hst.out.below hb3)
      clear hb3
      have hpo := Lib.hid (show partsOk l = ss.all (fun s => isTy s.data.toList) by rw [partsOk, ← HU.out, ← HS.out, decide_eq_true (by omega), Bool.true_and])
      cases hall : ss.all (fun s => isTy s.data.toList)
      · go_wp2_with fail
        go_ret2
        exact ⟨HB3.out, .inr (.inl ⟨hne.out, hpo.out.trans hall, rfl⟩)⟩
      · have hsl := Lib.hid (show ss = splitParts l by rw [HS.out, HU.out])
        go_wp2_with fail
        go_ret2
        exact ⟨HB3.out, .inr (.inr ⟨hne.out, hpo.out.trans hall, ao, c, by rw [← hsl.out]; rfl, by rw [← hsl.out]; exact hst3.out⟩)⟩
  · have hem := Lib.hid (show l = [] by rw [← HU.out]; exact empty_of hue)
    go_wp2_with fail
    go_ret2
    exact ⟨Below.refl _ _, .inl ⟨hem.out, rfl⟩⟩
end Go.Proofs.YtiofnjnaleglgaaGreatDoor

