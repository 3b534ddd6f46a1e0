import Derived.Test.YtgimdkgjfenafaaGreatDoorCG03
namespace Go.Proofs.YtgimdkgjfenafaaGreatDoor
open Go.RowKit
def rkSpec (k : Int) (q : List UInt8) : Option (Desc × List UInt8) :=
 if k = 1 then some (⟨1, 64, 0, 0, 0, 0, []⟩, q)
 else if k = 2 ∨ k = 3 then (match shapeSpec q with | some (r, e0, e1, e2, el, q') => some (⟨k, 0, r, e0, e1, e2, el⟩, q') | none => none)
 else if k = 4 then (if (foreignSpec q).1 = true then some (⟨4, 0, 0, 0, 0, 0, []⟩, (foreignSpec q).2) else none)
 else if (numSpec (q.takeWhile bDigit) 1 64).2 = true then some (⟨0, (numSpec (q.takeWhile bDigit) 1 64).1, 0, 0, 0, 0, []⟩, q.dropWhile bDigit) else none
theorem descSpec_some {l q q' : List UInt8} {k : Int} {d : Desc} (h60 : l.length ≤ 60) (hk : kindSpec l = (k, true, q)) (hr : rkSpec k q = some (d, q')) : descSpec l = if q' = [] then d else descZero := by
 unfold descSpec
 rw [if_neg (by omega), hk]
 simp only
 rw [if_neg (by simp)]
 unfold rkSpec at hr
 by_cases h1 : k = 1
 ·rw [if_pos h1] at hr ⊢; cases hr; rfl
 rw [if_neg h1] at hr ⊢
 by_cases h2 : k = 2 ∨ k = 3
 ·rw [if_pos h2] at hr ⊢
  split at hr
  ·rename_i hs; cases hr; rw [hs]
  ·cases hr
 rw [if_neg h2] at hr ⊢
 by_cases h4 : k = 4
 ·rw [if_pos h4] at hr ⊢
  split at hr
  ·rename_i hf
   cases hr
   simp [hf]
  ·cases hr
 rw [if_neg h4] at hr ⊢
 split at hr
 ·rename_i hn
  cases hr
  simp [hn]
 ·cases hr
theorem descSpec_none {l q : List UInt8} {k : Int} (h60 : l.length ≤ 60) (hk : kindSpec l = (k, true, q)) (hr : rkSpec k q = none) : descSpec l = descZero := by
 unfold descSpec
 rw [if_neg (by omega), hk]
 simp only
 rw [if_neg (by simp)]
 unfold rkSpec at hr
 by_cases h1 : k = 1
 ·rw [if_pos h1] at hr; cases hr
 rw [if_neg h1] at hr ⊢
 by_cases h2 : k = 2 ∨ k = 3
 ·rw [if_pos h2] at hr ⊢
  split at hr
  ·cases hr
  ·rename_i hs; rw [hs]
 rw [if_neg h2] at hr ⊢
 by_cases h4 : k = 4
 ·rw [if_pos h4] at hr ⊢
  split at hr
  ·cases hr
  ·rename_i hf
   rw [if_neg (fun e => hf e.1)]
 rw [if_neg h4] at hr ⊢
 split at hr
 ·cases hr
 ·rename_i hn
  rw [if_neg (fun e => hn e.1)]
def RkPost (k : Int) (bl : Nat) (s : ByteArray) (w : World) (e : Ending) (w' : World) : Prop :=
 ∃ (q : ByteArray) (k' b : Int) (r : Nat) (e0 e1 e2 : Int) (el : ByteArray) (ok : Bool), e = .returned (.tuple #[.agg #[.int .i64 k', .int .i64 b, .int .i64 r, .int .i64 e0, .int .i64 e1, .int .i64 e2, .string el], .bool ok]) ∧
  ((ok = false ∧ rkSpec k s.data.toList = none) ∨ (ok = true ∧ rkSpec k s.data.toList = some (⟨k', b, r, e0, e1, e2, el.data.toList⟩, q.data.toList))) ∧
  w'.heap[bl]? = some (.cells #[.string q] 9 (0, 0)) ∧ w.grownBy w' (some bl)
set_option maxHeartbeats 2000000 in
set_option maxRecDepth 100000 in
theorem readKind_any (N : Nat) (ih : ∀ x : ByteArray, x.size < N → ∀ w, Env w → Calls Tryz.prog 156 #[.string x] w (ReadPost x w)) (bl : Nat) (s : ByteArray) (hN : s.size < N) (h60 : s.size ≤ 60) (k : Int) (hk0 : 0 ≤ k) (hk4 : k ≤ 4) (w : World)
  (hb : w.heap[bl]? = some (.cells #[.string s] 9 (0, 0))) (hE : EnvB bl w) :
  Calls Tryz.prog 173 #[.int .i64 k, .func (.func 184) #[] #[.pointer (some ⟨bl, 0, none⟩)]] w (RkPost k bl s w) := by
 have IH := Lib.hid ih
 clear ih
 have hlt := lt_of_block hb
 have HB : ∀ o, Hid ((w.alloc o).heap[bl]? = some (.cells #[.string s] 9 (0, 0))) := fun o => (Below.heap_alloc _ _ _ hlt).trans hb
 have HE : ∀ o, EnvB bl (w.alloc o) := fun o => hE.step ((Below.refl _ _).alloc (by omega) _)
 clear hb hE
 have Hz := Lib.hid (heap_alloc_new w (.cells #[.int .i64 0, .int .i64 0, .int .i64 0, .int .i64 0, .int .i64 0, .int .i64 0, .string ⟨#[]⟩] 205))
 rcases (show k = 1 ∨ k = 2 ∨ k = 3 ∨ k = 4 ∨ k = 0 by omega) with rfl | rfl | rfl | rfl | rfl
 ·go_enter Tryz.func173, Tryz.ntmps173
  go_wp2_with fail
  refine bodyPost_ret (v := .tuple #[.agg #[.int .i64 1, .int .i64 64, .int .i64 (0 : Nat), .int .i64 0, .int .i64 0, .int .i64 0, .string ⟨#[]⟩], .bool true]) (results_cell_tmp Tryz.results173 rfl rfl (descVar (heap_alloc_new _ _))) rfl ?_
  exact ⟨s, 1, 64, 0, 0, 0, 0, ⟨#[]⟩, true, rfl, .inr ⟨rfl, by rw [rkSpec, if_pos rfl]⟩, (HB _).out, World.grownBy_alloc _ _ _⟩
 ·go_enter Tryz.func173, Tryz.ntmps173
  go_wp2_with fail
  refine (readShape_any N IH.out bl s hN h60 2 _ (HB _).out (HE _)).mono ?_
  rintro e w1 ⟨q, hb1, hg1, r, e0, e1, e2, el, hres⟩
  have Hg := Lib.hid (grown_trans (World.grownBy_alloc w _ (some bl)) hg1)
  have Hr := Lib.hid (block_kept Hz.out hg1 (by omega))
  have Hb1 := Lib.hid hb1
  clear hb1 hg1
  obtain ⟨c0, c1, c2, c3, c4, c5, c6, hfz⟩ := cells7 Hr.out
  rcases hres with ⟨rfl, hs⟩ | ⟨rfl, hs⟩
  ·have Hs := Lib.hid hs
   clear hs
   go_wp2_with fail
   refine bodyPost_ret (v := .tuple #[.agg #[.int .i64 2, .int .i64 0, .int .i64 r, .int .i64 e0, .int .i64 e1, .int .i64 e2, .string el], .bool false]) (results_cell_tmp Tryz.results173 rfl rfl (descVar (set7_block Hr.out))) rfl ?_
   exact ⟨q, 2, 0, r, e0, e1, e2, el, false, rfl, .inl ⟨rfl, by rw [rkSpec, if_neg (by omega), if_pos (by omega), Hs.out]⟩, (set7_other (by omega)).trans Hb1.out, set7_grown Hg.out (Nat.le_refl _)⟩
  ·have Hs := Lib.hid hs
   clear hs
   go_wp2_with fail
   refine bodyPost_ret (v := .tuple #[.agg #[.int .i64 2, .int .i64 0, .int .i64 r, .int .i64 e0, .int .i64 e1, .int .i64 e2, .string el], .bool true]) (results_cell_tmp Tryz.results173 rfl rfl (descVar (set7_block Hr.out))) rfl ?_
   exact ⟨q, 2, 0, r, e0, e1, e2, el, true, rfl, .inr ⟨rfl, by rw [rkSpec, if_neg (by omega), if_pos (by omega), Hs.out]⟩, (set7_other (by omega)).trans Hb1.out, set7_grown Hg.out (Nat.le_refl _)⟩
 ·go_enter Tryz.func173, Tryz.ntmps173
  go_wp2_with fail
  refine (readShape_any N IH.out bl s hN h60 3 _ (HB _).out (HE _)).mono ?_
  rintro e w1 ⟨q, hb1, hg1, r, e0, e1, e2, el, hres⟩
  have Hg := Lib.hid (grown_trans (World.grownBy_alloc w _ (some bl)) hg1)
  have Hr := Lib.hid (block_kept Hz.out hg1 (by omega))
  have Hb1 := Lib.hid hb1
  clear hb1 hg1
  obtain ⟨c0, c1, c2, c3, c4, c5, c6, hfz⟩ := cells7 Hr.out
  rcases hres with ⟨rfl, hs⟩ | ⟨rfl, hs⟩
  ·have Hs := Lib.hid hs
   clear hs
   go_wp2_with fail
   refine bodyPost_ret (v := .tuple #[.agg #[.int .i64 3, .int .i64 0, .int .i64 r, .int .i64 e0, .int .i64 e1, .int .i64 e2, .string el], .bool false]) (results_cell_tmp Tryz.results173 rfl rfl (descVar (set7_block Hr.out))) rfl ?_
   exact ⟨q, 3, 0, r, e0, e1, e2, el, false, rfl, .inl ⟨rfl, by rw [rkSpec, if_neg (by omega), if_pos (by omega), Hs.out]⟩, (set7_other (by omega)).trans Hb1.out, set7_grown Hg.out (Nat.le_refl _)⟩
  ·have Hs := Lib.hid hs
   clear hs
   go_wp2_with fail
   refine bodyPost_ret (v := .tuple #[.agg #[.int .i64 3, .int .i64 0, .int .i64 r, .int .i64 e0, .int .i64 e1, .int .i64 e2, .string el], .bool true]) (results_cell_tmp Tryz.results173 rfl rfl (descVar (set7_block Hr.out))) rfl ?_
   exact ⟨q, 3, 0, r, e0, e1, e2, el, true, rfl, .inr ⟨rfl, by rw [rkSpec, if_neg (by omega), if_pos (by omega), Hs.out]⟩, (set7_other (by omega)).trans Hb1.out, set7_grown Hg.out (Nat.le_refl _)⟩
 ·go_enter Tryz.func173, Tryz.ntmps173
  go_wp2_with fail
  refine (readForeign_any bl s _ (HB _).out).mono ?_
  rintro e w1 ⟨ok, q, rfl, hs, hb1, hg1⟩
  have Hg := Lib.hid (grown_trans (World.grownBy_alloc w _ (some bl)) hg1)
  have Hr := Lib.hid (block_kept Hz.out hg1 (by omega))
  have Hb1 := Lib.hid hb1
  have Hs := Lib.hid hs
  clear hb1 hg1 hs
  obtain ⟨c0, c1, c2, c3, c4, c5, c6, hfz⟩ := cells7 Hr.out
  go_wp2_with fail
  refine bodyPost_ret (v := .tuple #[.agg #[.int .i64 4, .int .i64 0, .int .i64 (0 : Nat), .int .i64 0, .int .i64 0, .int .i64 0, .string ⟨#[]⟩], .bool ok]) (results_cell_tmp Tryz.results173 rfl rfl (descVar (set7_block Hr.out))) rfl ?_
  refine ⟨q, 4, 0, 0, 0, 0, 0, ⟨#[]⟩, ok, rfl, ?_, (set7_other (by omega)).trans Hb1.out, set7_grown Hg.out (Nat.le_refl _)⟩
  cases ok
  ·exact .inl ⟨rfl, by rw [rkSpec, if_neg (by omega), if_neg (by omega), if_pos rfl, Hs.out]; rfl⟩
  ·exact .inr ⟨rfl, by rw [rkSpec, if_neg (by omega), if_neg (by omega), if_pos rfl, Hs.out]; rfl⟩
 ·go_enter Tryz.func173, Tryz.ntmps173
  go_wp2_with fail
  refine (take_digit bl _ _ (HB _).out).mono ?_
  rintro e w1 ⟨D, q, rfl, hD, hq, hb1, hg1⟩
  have Hg1 := Lib.hid (grown_trans (World.grownBy_alloc w _ (some bl)) hg1)
  have Hr1 := Lib.hid (block_kept Hz.out hg1 (by omega))
  have E1 : EnvB bl w1 := (HE _).grown hg1 (by simp; omega) (Nat.le_refl _)
  have hDs := Lib.hid (show D.size ≤ 60 by rw [size_eq, hD]; have := takeWhile_len bDigit s.data.toList; rw [size_eq] at h60; omega)
  have HD := Lib.hid hD
  have Hq := Lib.hid hq
  have Hb1 := Lib.hid hb1
  clear hD hq hb1 hg1
  go_wp2_with fail
  refine (number_some D 1 64 hDs.out _ E1.here).mono ?_
  rintro e w2 ⟨n, ok, rfl, hn, hb2⟩
  have Hb2 := Lib.hid ((hb2.block bl (lt_of_block Hb1.out)).trans Hb1.out)
  have Hg2 : Hid (w.grownBy w2 (some bl)) := grown_trans Hg1.out ⟨hb2.os, hb2.tape, hb2.output, hb2.size, fun i hi _ => hb2.block i hi⟩
  have Hr2 := Lib.hid ((hb2.block _ (lt_of_block Hr1.out)).trans Hr1.out)
  obtain ⟨c0, c1, c2, c3, c4, c5, c6, hfz⟩ := cells7 Hr2.out
  clear hb2
  go_wp2_with fail
  refine bodyPost_ret (v := .tuple #[.agg #[.int .i64 0, .int .i64 n, .int .i64 (0 : Nat), .int .i64 0, .int .i64 0, .int .i64 0, .string ⟨#[]⟩], .bool ok]) (results_cell_tmp Tryz.results173 rfl rfl (descVar (set7_block Hr2.out))) rfl ?_
  refine ⟨q, 0, n, 0, 0, 0, 0, ⟨#[]⟩, ok, rfl, ?_, (set7_other (by omega)).trans Hb2.out, set7_grown Hg2.out (Nat.le_refl _)⟩
  have hn' := hn.out
  rw [HD.out] at hn'
  cases ok
  ·exact .inl ⟨rfl, by rw [rkSpec, if_neg (by omega), if_neg (by omega), if_neg (by omega), hn']; rfl⟩
  ·exact .inr ⟨rfl, by rw [rkSpec, if_neg (by omega), if_neg (by omega), if_neg (by omega), hn', Hq.out]; rfl⟩
theorem kindSpec_len (l : List UInt8) : (kindSpec l).2.2.length ≤ l.length ∧ ((kindSpec l).2.1 = true → (kindSpec l).2.2.length < l.length) := by
 have cut : ∀ (p : UInt8 → Bool) (l : List UInt8), (l.takeWhile p).length + (l.dropWhile p).length = l.length := fun p l => by
  have := congrArg List.length (List.takeWhile_append_dropWhile (p := p) (l := l)); rwa [List.length_append] at this
 have h1 := cut bLetter l
 have h2 := cut (bIs 33) (l.dropWhile bLetter)
 unfold kindSpec
 split
 ·refine ⟨by simp only; omega, fun h => ?_⟩
  have : 0 < ((l.dropWhile bLetter).takeWhile (bIs 33)).length := by
   cases hz : (l.dropWhile bLetter).takeWhile (bIs 33) with
   | nil => simp only at h; rw [hz] at h; cases h
   | cons a b => simp
  simp only; omega
 ·rename_i hne
  have : 0 < (l.takeWhile bLetter).length := List.length_pos_iff.2 hne
  exact ⟨by simp only; omega, fun _ => by simp only; omega⟩
theorem reader_some (s : ByteArray) (w : World) : Calls Tryz.prog 171 #[.string s] w fun e w' =>
  ∃ bl : Nat, e = .returned (.func (.func 184) #[] #[.pointer (some ⟨bl, 0, none⟩)]) ∧ Hid (w'.heap[bl]? = some (.cells #[.string s] 9 (0, 0))) ∧ w.heap.size ≤ bl ∧ Below w.heap.size w w' :=
 (reader_any s w).mono fun e w' ⟨he, hw⟩ => ⟨w.heap.size, he, by rw [← hw]; exact heap_alloc_new _ _, Nat.le_refl _, by rw [← hw]; exact (Below.refl _ _).alloc (Nat.le_refl _) _⟩
theorem takeWhile_any (l : List UInt8) : l.takeWhile bAny = l := by
 induction l with
 | nil => rfl
 | cons a l ih => rw [List.takeWhile_cons]; simp [bAny, ih]
theorem set7_below {B b : Nat} {w0 w : World} {u0 u1 u2 u3 u4 u5 u6 : Value} (hg : Below B w0 w) (hb : B ≤ b) :
  Below B w0 (((((((w.setCell ⟨b, 0, none⟩ u0).setCell ⟨b, 1, none⟩ u1).setCell ⟨b, 2, none⟩ u2).setCell ⟨b, 3, none⟩ u3).setCell ⟨b, 4, none⟩ u4).setCell ⟨b, 5, none⟩ u5).setCell ⟨b, 6, none⟩ u6) :=
 ((((((hg.setCell hb _).setCell hb _).setCell hb _).setCell hb _).setCell hb _).setCell hb _).setCell hb _
set_option maxHeartbeats 1000000 in
set_option maxRecDepth 100000 in
theorem read_step (N : Nat) (ih : ∀ x : ByteArray, x.size < N → ∀ w, Env w → Calls Tryz.prog 156 #[.string x] w (ReadPost x w)) (s : ByteArray) (hN : s.size ≤ N) (w : World) (hE : Env w) :
  Calls Tryz.prog 156 #[.string s] w (ReadPost s w) := by
 have IH := Lib.hid ih
 clear ih
 by_cases h60 : 60 < s.size
 ·have hd := Lib.hid (show descSpec s.data.toList = descZero by rw [descSpec, if_pos (by rw [← size_eq]; exact h60)])
  go_enter Tryz.func156, Tryz.ntmps156
  go_wp2_with fail
  refine bodyPost_ret (v := .agg #[.int .i64 0, .int .i64 0, .int .i64 (0 : Nat), .int .i64 0, .int .i64 0, .int .i64 0, .string ⟨#[]⟩]) (results_cell Tryz.results156 rfl (descVar (heap_alloc_new _ _))) rfl ?_
  exact ⟨0, 0, 0, 0, 0, 0, ⟨#[]⟩, rfl, hd.out, (Below.refl _ _).alloc (Nat.le_refl _) _⟩
 ·have h60' : s.size ≤ 60 := by omega
  have hl60 : s.data.toList.length ≤ 60 := by rw [← size_eq]; exact h60'
  clear h60
  have Hz := Lib.hid (heap_alloc_new w (.cells #[.int .i64 0, .int .i64 0, .int .i64 0, .int .i64 0, .int .i64 0, .int .i64 0, .string ⟨#[]⟩] 205))
  have HB0 := Lib.hid ((Below.refl w.heap.size w).alloc (Nat.le_refl _) (.cells #[.int .i64 0, .int .i64 0, .int .i64 0, .int .i64 0, .int .i64 0, .int .i64 0, .string ⟨#[]⟩] 205))
  go_enter Tryz.func156, Tryz.ntmps156
  go_wp2_with fail
  refine (reader_some s _).mono ?_
  rintro e w1 ⟨bl, rfl, hb1, hbl, hbel1⟩
  have hbl' : w.heap.size < bl := by have e0 : (w.alloc (.cells #[.int .i64 0, .int .i64 0, .int .i64 0, .int .i64 0, .int .i64 0, .int .i64 0, .string ⟨#[]⟩] 205)).heap.size = w.heap.size + 1 := (by simp); omega
  clear hbl
  have HB1 := Lib.hid (HB0.out.trans (hbel1.mono (by simp)))
  have Hr1 := Lib.hid ((hbel1.block w.heap.size (by simp)).trans Hz.out)
  have hE1 := hE.below HB1.out
  have E1 : EnvB bl w1 := fun w' hw' => hE.below (HB1.out.trans (hw'.mono (by omega)))
  clear hbel1 hE1
  go_wp2_with fail
  refine (kindOfWord_any bl s h60' _ hb1.out).mono ?_
  rintro e w2 ⟨k, ok, q, rfl, hk, hb2, hg2⟩
  have hle1 : bl ≤ w1.heap.size := by have := lt_of_block hb1.out; omega
  have HB2 := Lib.hid (HB1.out.trans (below_of_grown hg2 (by have := HB1.out.size; omega) (by omega)))
  have Hr2 := Lib.hid (block_kept Hr1.out hg2 (by omega))
  have E2 := E1.grown hg2 hle1 (Nat.le_refl _)
  have Hk := Lib.hid hk
  have Hb2 := Lib.hid hb2
  clear hk hb2 hg2
  cases ok
  ·have hd := Lib.hid (show descSpec s.data.toList = descZero by rw [descSpec, if_neg (by omega), Hk.out, if_pos rfl])
   obtain ⟨c0, c1, c2, c3, c4, c5, c6, hfz⟩ := cells7 Hr2.out
   go_wp2_with fail
   refine bodyPost_ret (v := .agg #[.int .i64 0, .int .i64 0, .int .i64 (0 : Nat), .int .i64 0, .int .i64 0, .int .i64 0, .string ⟨#[]⟩]) (results_cell Tryz.results156 rfl (descVar (set7_block Hr2.out))) rfl ?_
   exact ⟨0, 0, 0, 0, 0, 0, ⟨#[]⟩, rfl, hd.out, set7_below HB2.out (Nat.le_refl _)⟩
  ·have hq : q.size < s.size := by
    have := (kindSpec_len s.data.toList).2
    rw [Hk.out] at this
    rw [size_eq, size_eq s]; exact this rfl
   have hkr := kindSpec_range s.data.toList
   rw [Hk.out] at hkr
   go_wp2_with fail
   refine (readKind_any N IH.out bl q (by omega) (by omega) k hkr.1 hkr.2 _ Hb2.out E2).mono ?_
   rintro e w3 ⟨q3, k', b, r, e0, e1, e2, el, ok3, rfl, hs, hb3, hg3⟩
   have HB3 := Lib.hid (HB2.out.trans (below_of_grown hg3 (by have := HB2.out.size; omega) (by omega)))
   have Hr3 := Lib.hid (block_kept Hr2.out hg3 (by omega))
   have Hs := Lib.hid hs
   have Hb3 := Lib.hid hb3
   clear hs hb3 hg3 hkr
   have hW := Lib.hid (heap_alloc_new w3 (.cells #[.int .i64 k', .int .i64 b, .int .i64 r, .int .i64 e0, .int .i64 e1, .int .i64 e2, .string el] 205))
   have HB4 := Lib.hid (HB3.out.alloc HB3.out.size (.cells #[.int .i64 k', .int .i64 b, .int .i64 r, .int .i64 e0, .int .i64 e1, .int .i64 e2, .string el] 205))
   have Hr4 := Lib.hid ((Below.heap_alloc w3 (.cells #[.int .i64 k', .int .i64 b, .int .i64 r, .int .i64 e0, .int .i64 e1, .int .i64 e2, .string el] 205) _ (lt_of_block Hr3.out)).trans Hr3.out)
   have Hb4 := Lib.hid ((Below.heap_alloc w3 (.cells #[.int .i64 k', .int .i64 b, .int .i64 r, .int .i64 e0, .int .i64 e1, .int .i64 e2, .string el] 205) _ (lt_of_block Hb3.out)).trans Hb3.out)
   have hbl3 := lt_of_block Hb3.out
   have hsz3 := lt_of_block Hr3.out
   cases ok3
   ·have hd := Lib.hid (show descSpec s.data.toList = descZero from descSpec_none hl60 Hk.out (Hs.out.elim (fun h => h.2) (fun h => by cases h.1)))
    obtain ⟨c0, c1, c2, c3, c4, c5, c6, hfz⟩ := cells7 Hr3.out
    go_wp2_with fail
    have hset := set7_block (u0 := .int .i64 0) (u1 := .int .i64 0) (u2 := .int .i64 0) (u3 := .int .i64 0) (u4 := .int .i64 0) (u5 := .int .i64 0) (u6 := .string ⟨#[]⟩) Hr3.out
    refine bodyPost_ret (v := .agg #[.int .i64 0, .int .i64 0, .int .i64 (0 : Nat), .int .i64 0, .int .i64 0, .int .i64 0, .string ⟨#[]⟩]) (results_cell Tryz.results156 rfl (descVar ((Below.heap_alloc _ _ _ (lt_of_block hset)).trans hset))) rfl ?_
    exact ⟨0, 0, 0, 0, 0, 0, ⟨#[]⟩, rfl, hd.out, (set7_below HB3.out (Nat.le_refl _)).alloc (set7_below HB3.out (Nat.le_refl _)).size _⟩
   ·have hsome := Lib.hid (Hs.out.elim (fun h => by cases h.1) (fun h => h.2) : rkSpec k q.data.toList = some (⟨k', b, r, e0, e1, e2, el.data.toList⟩, q3.data.toList))
    have hd := Lib.hid (descSpec_some hl60 Hk.out hsome.out)
    go_wp2_with fail
    refine (take_anything bl q3 _ Hb4.out).mono ?_
    rintro e w5 ⟨r5, q5, rfl, hr5, hq5, hb5, hg5⟩
    have HB5 := Lib.hid (HB4.out.trans (below_of_grown hg5 HB4.out.size (by omega)))
    have Hr5 := Lib.hid (block_kept Hr4.out hg5 (by omega))
    have Ht5 := Lib.hid (block_kept hW.out hg5 (by omega))
    have hrq := Lib.hid (hr5.trans (takeWhile_any _))
    clear hr5 hq5 hb5 hg5
    cases hre : r5.toList.isEmpty
    ·have hd' := Lib.hid (show descSpec s.data.toList = descZero by rw [hd.out, if_neg]; rw [← hrq.out]; exact nonempty_of hre)
     obtain ⟨c0, c1, c2, c3, c4, c5, c6, hfz⟩ := cells7 Hr5.out
     go_wp2_with fail
     refine bodyPost_ret (v := .agg #[.int .i64 0, .int .i64 0, .int .i64 (0 : Nat), .int .i64 0, .int .i64 0, .int .i64 0, .string ⟨#[]⟩]) (results_cell Tryz.results156 rfl (descVar (set7_block Hr5.out))) rfl ?_
     exact ⟨0, 0, 0, 0, 0, 0, ⟨#[]⟩, rfl, hd'.out, set7_below HB5.out (Nat.le_refl _)⟩
    ·have hd' := Lib.hid (show descSpec s.data.toList = ⟨k', b, r, e0, e1, e2, el.data.toList⟩ by rw [hd.out, if_pos]; rw [← hrq.out]; exact empty_of hre)
     obtain ⟨c0, c1, c2, c3, c4, c5, c6, hfz⟩ := cells7 Hr5.out
     obtain ⟨d0, d1, d2, d3, d4, d5, d6, hfz2⟩ := cells7 Ht5.out
     go_wp2_with fail
     refine bodyPost_ret (v := .agg #[.int .i64 k', .int .i64 b, .int .i64 r, .int .i64 e0, .int .i64 e1, .int .i64 e2, .string el]) (results_cell Tryz.results156 rfl (descVar (set7_block Hr5.out))) rfl ?_
     exact ⟨k', b, r, e0, e1, e2, el, rfl, hd'.out, set7_below HB5.out (Nat.le_refl _)⟩
theorem read_all (N : Nat) : ∀ s : ByteArray, s.size < N → ∀ w, Env w → Calls Tryz.prog 156 #[.string s] w (ReadPost s w) := by
 induction N with
 | zero => exact fun s h => absurd h (Nat.not_lt_zero _)
 | succ N ih => exact fun s h w hE => read_step N ih s (by omega) w hE
theorem read_any (s : ByteArray) (w : World) (hE : Env w) : Calls Tryz.prog 156 #[.string s] w (ReadPost s w) := read_all (s.size + 1) s (Nat.lt_succ_self _) w hE
end Go.Proofs.YtgimdkgjfenafaaGreatDoor
