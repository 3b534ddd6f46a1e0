import Derived.Test.YtgimdkgjfenafaaGreatDoorCG42
import Derived.Test.YtgimdkgjfenafaaGreatDoorCDxPD
import Derived.Sort.Walk0
import Derived.Sort.EncStr
import Derived.Test.YtgimdkgjfenafaaGreatDoorCG26
import Derived.Test.YtgimdkgjfenafaaGreatDoorCG19
import Derived.RangeFuncFrom
import Derived.RangeFuncLeaves
import Derived.RangeFuncBound
import Derived.RangeFuncCalls
import Derived.Shelf.Abstract
import Derived.Shelf.RegionOpen
import Derived.OwnWalkIn
import Derived.TacticsInMore
import Derived.LoopNIn
import Derived.LoopIn
import Derived.Maps.OwnIn
namespace Go.Proofs.YtgimdkgjfenafaaGreatDoor
open Go.RowKit
open Lib (hid)
def CoreOP (w : World) (e : Ending) (w' : World) : Prop := ∃ (xs : List XEl) (ao : Option Addr) (c : Nat), e = .returned (.slice ao xs.length c) ∧ xs.map XEl.d = coreD ∧ w'.ownsRow w.heap.size 90 3 (.slice ao xs.length c) xs.length (xs.flatMap XEl.cells) ∧ (∀ x ∈ xs, DiaOK (above w.heap.size (off (own ao) w')) x) ∧ Below w.heap.size w w'
set_option maxHeartbeats 4000000 in
set_option maxRecDepth 100000 in
theorem CoreO_any (w : World) : Calls Tryz.prog 38 #[] w (CoreOP w) := by
 go_enter Tryz.func38, Tryz.ntmps38
 go_wp2_with fail
 have hcn : Calls Tryz.prog 66 #[] w fun e w' => ∃ (ao : Option Addr) (c : Nat), e = .returned (.slice ao 7 c) ∧ StrsAt (above w.heap.size w') ao coreNamesL ∧ 7 ≤ c ∧ Below w.heap.size w w' := coreNames_any w
 refine hcn.mono ?_
 rintro e w1 ⟨no, nc, rfl, hs, hc, hb⟩
 have HN := hid (strs_keeps hs (above_off (g := none) (fun k e => by cases e)))
 have HB := hid hb
 clear hs hc hb hcn
 go_wp2_with fail
 go_loopw [1, 8] (fun ov iv wr => ∃ (j : Nat) (ao : Option Addr) (cp : Nat) (xs : List XEl), j ≤ 7 ∧ ov = .slice ao xs.length cp ∧ iv = .int .i64 j ∧ Hid (CorS w j no ao cp xs wr)) (fun _ iv _ => 7 - (intOf iv).toNat)
 case atStart => exact ⟨0, none, 0, [], Nat.zero_le _, rfl, rfl, World.ownsRow_nil _ _ _ _, fun e he => (by cases he), HB.out, HN.out, rfl, rfl⟩
 case round =>
  obtain ⟨j, ao, cp, xs, hj, rfl, rfl, HC⟩ := hrel
  by_cases hlt : j < 7
  rotate_left
  ·obtain rfl : j = 7 := by omega
   clear hlt hj
   go_wp2_with fail
   go_ret
   exact ⟨xs, ao, cp, rfl, HC.out.so, HC.out.row, HC.out.ok, HC.out.below⟩
  rcases strs_keeps HC.out.names off_to with h0 | ⟨a, rfl, hc⟩
  ·cases h0
  have hcm := hc j hlt
  obtain ⟨ds, hf, hd⟩ := core_at j hlt
  generalize coreNamesL[j]?.getD ByteArray.empty = nm at hcm hf hd
  have HF := hid hf
  have HD := hid hd
  have HJ := hid hlt
  have hji : (j : Int) < 7 := by omega
  clear hc hf hd hlt hj
  go_wp2_with fail
  refine (coreDialect_any nm wr).mono ?_
  rintro e w2 ⟨hb, (⟨ds', es, po, pc, hf, hes, hl, hpc, rfl⟩ | ⟨hf, rfl⟩)⟩
  rotate_left
  ·rw [HF.out] at hf; cases hf
  obtain rfl : ds = ds' := Option.some.inj (HF.out.symm.trans hf)
  have HES := hid hes
  have HL := hid (show DiaOK (above wr.heap.size w2) ⟨nm, [], es, none, 0, po, pc⟩ from ⟨.inl rfl, hl, Nat.le_refl _, hpc⟩)
  have HB2 := hid hb
  have HD2 := hid (show coreD[j]? = some (XEl.d ⟨nm, [], es, none, 0, po, pc⟩) by rw [HD.out]; show _ = some (⟨nm, [], es.map (·.d)⟩ : DiaD); rw [hes])
  clear hes hl hb hf hcm
  go_upto_region 6 with fail
  have HNB := hid (new_below w2 (.cells #[.string nm, .slice none 0 0, .slice po es.length pc] 90))
  have HT := hid (heap_alloc_new w2 (.cells #[.string nm, .slice none 0 0, .slice po es.length pc] 90))
  generalize w2.alloc (.cells #[.string nm, .slice none 0 0, .slice po es.length pc] 90) = W3 at HNB HT ⊢
  have HB3 := hid (HB2.out.trans (HNB.out.mono HB2.out.size))
  have HOWN := hid (ownsRow_below HC.out.row HB3.out)
  have HBS := hid (Nat.le_trans HC.out.below.size HB3.out.size)
  have HNN := hid (show xs.length ≤ 2000000 by have := HC.out.few; have := HJ.out; omega)
  obtain ⟨c0, c1, c2, -⟩ := cells3 HT.out
  generalize w2.heap.size = D at c0 c1 c2 ⊢
  go_wp2_with (at_builtin; refine wp_append_own rfl 25 90 3 Tryz.underlying25 info_dia (by decide) _ _ rfl HOWN.out HBS.out HNN.out rfl rfl rfl rfl ?_; intro ao5 c5 w5 hown hbel hk; have HO5 := hid hown; have HB5 := hid hbel; have HK5 := hid hk; clear hown hbel hk)
  go_roundw
  case rel => exact ⟨j + 1, ao5, c5, xs ++ [(⟨nm, [], es, none, 0, po, pc⟩ : XEl)], HJ.out, by rw [List.length_append, List.length_singleton], by go_num, HC.out.more (x := ⟨nm, [], es, none, 0, po, pc⟩) HL.out HB2.out HNB.out HD2.out HO5.out HB5.out HK5.out⟩
  case measure => have := HJ.out; simp only [intOf]; omega
theorem append_rowK {T E ty : TypeId} {sz : Nat} (hT : Tryz.prog.underlying T = some (.slice E)) (hI : InfoIs E sz) (hsz : 0 < sz) {w : World} {B : Nat} {ao : Option Addr} {n c m : Nat} {xs news : List Value} (h : w.ownsRow B E sz (.slice ao n c) n xs) (hB : B ≤ w.heap.size) (h3 : n + m ≤ 2000000)
  {xo : Option Addr} {cx : Nat} (hx : RowIs w xo m news) (hn : news.length = m * sz) (h1 : news.all Value.oneCell' = true) :
  ∃ ao' c' w', (Builtin.append_ #[T, T] ty #[.slice ao n c, .slice xo m cx]).run Tryz.prog w = .ok (.slice ao' (n + m) c') w' ∧
   w'.ownsRow B E sz (.slice ao' (n + m) c') (n + m) (xs ++ news) ∧ Below B w w' ∧ ∀ k, k < w.heap.size → some k ≠ own ao → w'.heap[k]? = w.heap[k]? := by
 obtain ⟨i, z, hi, hz, hs, hzs, hby⟩ := hI
 rcases hx with rfl | ⟨bk, o, rfl, hc⟩
 ·obtain rfl : news = [] := List.eq_nil_of_length_eq_zero (by rw [hn, Nat.zero_mul])
  have hsrc : Src Tryz.prog i.size T (.slice xo 0 cx) 0 [] w := by
   cases xo with
   | none => exact Src.ofNil w hT cx
   | some a => exact Src.ofSlice w hT a 0 cx [] (by rw [Nat.zero_mul]; rfl) (fun j u hj => by cases hj) (fun u hu => by cases hu)
  have hr := run_append_nothing (P := Tryz.prog) w T T ty E i hT hi ao n c (row_own h).2 _ hsrc
  exact ⟨ao, c, w, hr, by rw [List.append_nil]; exact h, Below.refl _ _, fun _ _ _ => rfl⟩
 ·obtain ⟨v', w', hr, g1, g2, _, g4⟩ := run_append_own_at (P := Tryz.prog) w B T ty E i z sz i.bytes hT hi hz hs rfl hzs hsz
   (.slice ao n c) n xs h ⟨bk, o, none⟩ m cx news hn (row_at hc) (fun u hu => List.all_eq_true.1 h1 u hu) (by simp only [maxLen]; omega) (Nat.le_trans (Nat.mul_le_mul (show n + m ≤ 2000001 by omega) hby) (by decide)) hB
  obtain ⟨ao', c', rfl⟩ : ∃ ao' c', v' = .slice ao' (n + m) c' := by
   rcases g1.2 with ⟨rfl, h0⟩ | ⟨g, cap, cur, rfl, _⟩
   ·exact ⟨none, 0, by rw [h0]⟩
   ·exact ⟨_, _, rfl⟩
  have hk : ∀ k, k < w.heap.size → some k ≠ own ao → w'.heap[k]? = w.heap[k]? := fun k hk hne => g2.block k hk (by rw [own_block]; exact hne)
  exact ⟨ao', c', w', hr, g1, ⟨g2.os, g2.tape, g2.output, g2.size, fun k hkB => hk k (by omega) (fun e => by have := (own_lt' h k e).1; omega)⟩, hk⟩
theorem append_name {w : World} {B : Nat} {ao : Option Addr} {c : Nat} {es : List ByteArray} (h : w.ownsRow B 9 1 (.slice ao es.length c) es.length (es.map .string)) (hB : B ≤ w.heap.size) (h3 : es.length ≤ 2000000) (s : ByteArray) {ty : TypeId} :
  ∃ ao' c' w', (Builtin.append_ #[27, 27] ty #[.slice ao es.length c, .slice (some ⟨w.heap.size, 0, none⟩) 1 1]).run Tryz.prog (w.alloc (.cells #[.string s] 9)) = .ok (.slice ao' (es.length + 1) c') w' ∧
   w'.ownsRow B 9 1 (.slice ao' (es.length + 1) c') (es.length + 1) ((es ++ [s]).map .string) ∧ Below B w w' ∧ w.heap.size ≤ w'.heap.size ∧ KeepsOthers w w' ∧ (∀ k, k < w.heap.size → some k ≠ own ao → w'.heap[k]? = w.heap[k]?) ∧ ∀ k, own ao' = some k → own ao = some k ∨ w.heap.size ≤ k := by
 obtain ⟨i, z, hi, hz, hsz, hzs, hby⟩ := info_string
 have hown : (w.alloc (.cells #[.string s] 9)).ownsRow B 9 1 (.slice ao es.length c) es.length (es.map .string) := ownsRow_below h (new_below _ _)
 have hcell : ∀ j u, [Value.string s][j]? = some u → (w.alloc (.cells #[.string s] 9)).cell? ((⟨w.heap.size, 0, none⟩ : Addr).add j) = some u := by
  intro j u hj
  cases j with
  | zero =>
   simp only [List.getElem?_cons_zero, Option.some.injEq] at hj
   subst hj
   rw [Addr.add_lit, cell_of_row _ _ _ _ _ _ (heap_alloc_new _ _)]
   rfl
  | succ j => simp at hj
 obtain ⟨v', w', hr, h1, h2, _, h4⟩ := run_append_own_at (P := Tryz.prog) (w.alloc (.cells #[.string s] 9)) B 27 ty 9 i z 1 i.bytes Tryz.underlying27 hi hz hsz rfl hzs (by decide)
  (.slice ao es.length c) es.length (es.map .string) hown ⟨w.heap.size, 0, none⟩ 1 1 [.string s] rfl hcell (fun u hu => by simp only [List.mem_singleton] at hu; subst hu; rfl) (by simp only [maxLen]; omega) (Nat.le_trans (Nat.mul_le_mul (show es.length + 1 ≤ 2000001 by omega) hby) (by decide)) (by simp; omega)
 obtain ⟨ao', c', rfl⟩ : ∃ ao' c', v' = .slice ao' (es.length + 1) c' := by
  rcases h1.2 with ⟨_, h0⟩ | ⟨g, cap, cur, rfl, _⟩
  ·exact absurd h0 (Nat.succ_ne_zero _)
  ·exact ⟨_, _, rfl⟩
 have hs : w.heap.size ≤ w'.heap.size := by have := h2.size; simp at this; omega
 have hk : ∀ k, k < w.heap.size → some k ≠ own ao → w'.heap[k]? = w.heap[k]? := fun k hk hne =>
  (h2.block k (by simp; omega) (by rw [own_block]; exact hne)).trans (Below.heap_alloc _ _ _ (by omega))
 refine ⟨ao', c', w', hr, by rw [List.map_append]; exact h1, ⟨h2.os.trans rfl, h2.tape.trans rfl, h2.output.trans rfl, by omega, fun k hkB => hk k (by omega) (fun e => by have := (own_lt' h k e).1; omega)⟩, hs, ⟨hs, fun k o ho hc => (hk k (lt_of_block ho) (fun e => ?_)).trans ho⟩, hk, fun k e => ?_⟩
 ·rcases h.2 with ⟨hv, _⟩ | ⟨g, c', cur, hv, hb, hg, _⟩
  ·injection hv with h0
   subst h0
   cases e
  ·injection hv with h0
   subst h0
   cases e
   rw [hg] at ho
   cases ho
   cases hc
 ·rcases h4 with h4 | h4
  ·rw [own_block, own_block] at h4
   exact .inl (h4 ▸ e)
  ·rw [own_block] at h4
   rw [h4] at e
   cases e
   simp
theorem all_perm (cs xs : List DiaD) : (allL cs xs).Perm (cs ++ xs) := by
 induction cs, xs using allL.induct with
 | case1 xs => rw [allL]; exact List.Perm.refl _
 | case2 c cs => rw [allL, List.append_nil]
 | case3 c cs x xs h ih => rw [allL, if_pos h]; exact ih.cons c
 | case4 c cs x xs h ih => rw [allL, if_neg h]; exact (ih.cons x).trans List.perm_middle.symm
abbrev bl (s : ByteArray) : List UInt8 := s.data.toList
theorem gt_iff (x s : ByteArray) : gtB x s = true ↔ bl s < bl x := by
 unfold gtB
 rw [bytesLess_eq, Lib.toList_data, Lib.toList_data, Bool.and_eq_true, Bool.not_eq_true', Bool.not_eq_true', decide_eq_false_iff_not, beq_eq_false_iff_ne]
 constructor
 ·rintro ⟨h1, h2⟩
  exact List.not_le.1 fun h => h2 (List.le_antisymm h (List.not_lt.1 h1))
 ·intro h
  exact ⟨fun k => List.not_le.2 k (List.le_of_lt h), fun e => by rw [bl, bl, e] at h; exact List.lt_irrefl _ h⟩
theorem atR_spec (out : List ByteArray) (s : ByteArray) : ∀ n, n ≤ out.length → (∀ i, atR out s n ≤ i → i < n → bl s < bl (nthB out i)) ∧ (∀ q, atR out s n = q + 1 → bl (nthB out q) ≤ bl s)
 | 0, _ => ⟨fun i _ h => absurd h (Nat.not_lt_zero _), fun q h => by rw [atR] at h; cases h⟩
 | n + 1, hn => by
  rw [atR]
  split
  ·rename_i hg
   obtain ⟨h1, h2⟩ := atR_spec out s n (by omega)
   refine ⟨fun i hi hl => ?_, h2⟩
   by_cases e : i = n
   ·subst e; exact (gt_iff _ _).1 hg
   ·exact h1 i hi (by omega)
  ·rename_i hg
   refine ⟨fun i hi hl => by omega, fun q e => ?_⟩
   obtain rfl : n = q := by omega
   exact List.not_lt.1 fun h => hg ((gt_iff _ _).2 h)
theorem nthB_eq {l : List ByteArray} {i : Nat} (h : i < l.length) : nthB l i = l[i] := by unfold nthB; rw [List.getElem?_eq_getElem h]; rfl
abbrev UpB (l : List ByteArray) : Prop := l.Pairwise fun a b => bl a ≤ bl b
theorem insR_up {out : List ByteArray} (h : UpB out) (s : ByteArray) : UpB (insR out s) := by
 obtain ⟨h1, h2⟩ := atR_spec out s out.length (Nat.le_refl _)
 have hm := atR_le out s out.length
 unfold insR
 generalize atR out s out.length = m at h1 h2 hm
 have hlow : ∀ a ∈ out.take m, bl a ≤ bl s := fun a ha => by
  obtain ⟨i, hi, rfl⟩ := List.mem_iff_getElem.1 ha
  rw [List.length_take] at hi
  rw [List.getElem_take]
  obtain ⟨q, rfl⟩ : ∃ q, m = q + 1 := ⟨m - 1, by omega⟩
  have hq := h2 q rfl
  rw [nthB_eq (by omega)] at hq
  by_cases e : i = q
  ·subst e; exact hq
  ·exact List.le_trans (List.pairwise_iff_getElem.1 h i q (by omega) (by omega) (by omega)) hq
 have hhigh : ∀ b ∈ out.drop m, bl s ≤ bl b := fun b hb => by
  obtain ⟨i, hi, rfl⟩ := List.mem_iff_getElem.1 hb
  rw [List.length_drop] at hi
  rw [List.getElem_drop]
  have := h1 (m + i) (by omega) (by omega)
  rw [nthB_eq (by omega)] at this
  exact List.le_of_lt this
 have hh : UpB (out.take m ++ out.drop m) := by rw [List.take_append_drop]; exact h
 rw [UpB, List.pairwise_append] at hh
 rw [UpB, List.pairwise_append, List.pairwise_append]
 refine ⟨⟨hh.1, List.pairwise_singleton _ _, fun a ha b hb => ?_⟩, hh.2.1, fun a ha b hb => ?_⟩
 ·obtain rfl := List.mem_singleton.1 hb; exact hlow a ha
 ·rcases List.mem_append.1 ha with ha | ha
  ·exact hh.2.2 a ha b hb
  ·obtain rfl := List.mem_singleton.1 ha; exact hhigh b hb
theorem insR_perm (out : List ByteArray) (s : ByteArray) : (insR out s).Perm (s :: out) := by
 unfold insR
 rw [List.append_assoc, List.singleton_append]
 refine List.perm_middle.trans ?_
 rw [List.take_append_drop]
theorem fold_up (l : List ByteArray) : ∀ out, UpB out → UpB (l.foldl insR out) ∧ (l.foldl insR out).Perm (l ++ out) := by
 induction l with
 | nil => intro out h; exact ⟨h, List.Perm.refl _⟩
 | cons s l ih =>
  intro out h
  obtain ⟨h1, h2⟩ := ih _ (insR_up h s)
  exact ⟨h1, h2.trans (((insR_perm out s).append_left l).trans List.perm_middle)⟩
theorem sort_one {l l' : List ByteArray} (h : l.Perm l') : (l.map bl).mergeSort (fun x y => decide (x ≤ y)) = (l'.foldl insR []).map bl := by
 have tr : ∀ a b c : List UInt8, decide (a ≤ b) = true → decide (b ≤ c) = true → decide (a ≤ c) = true := fun a b c h1 h2 => by simp only [decide_eq_true_eq] at *; exact List.le_trans h1 h2
 have tot : ∀ a b : List UInt8, (decide (a ≤ b) || decide (b ≤ a)) = true := fun a b => by simp only [Bool.or_eq_true, decide_eq_true_eq]; exact List.le_total a b
 obtain ⟨h1, h2⟩ := fold_up l' [] List.Pairwise.nil
 rw [List.append_nil] at h2
 refine List.Perm.eq_of_pairwise (le := fun a b => decide (a ≤ b) = true) (fun a b _ _ k1 k2 => ?_) (List.pairwise_mergeSort tr tot _) (List.pairwise_map.2 (h1.imp fun k => decide_eq_true k)) ((List.mergeSort_perm _ _).trans ((h.trans h2.symm).map bl))
 simp only [decide_eq_true_eq] at k1 k2
 exact List.le_antisymm k1 k2
theorem names_perm (xs : List DiaD) (c : List DiaD) : ((allL c xs).flatMap namesOf).Perm ((c ++ xs).flatMap namesOf) := (all_perm c xs).flatMap_right namesOf
attribute [local go_sem] Oper.semAt_some
theorem core_few : coreD.length = 7 ∧ (coreD.flatMap namesOf).length ≤ 200 ∧ 0 < (coreD.flatMap namesOf).length := ⟨rfl, by decide, by decide⟩
def rowOf (b : Nat) (W : World) : Option Nat := (W.cell? ⟨b, 0, none⟩).bind Value.ownBlock
theorem rowOf_same {b : Nat} {W W' : World} (h : W'.heap[b]? = W.heap[b]?) : rowOf b W' = rowOf b W := by
 unfold rowOf World.cell?
 rw [h]
structure KeepB (b : Nat) (W W' : World) : Prop where
 size : W.heap.size ≤ W'.heap.size
 block : ∀ (k : Nat) (cs : Array Value) (t : TypeId) (fr : Nat × Nat), W.heap[k]? = some (.cells cs t fr) → k ≠ b → rowOf b W ≠ some k → W'.heap[k]? = some (.cells cs t fr)
 row : ∀ k, rowOf b W' = some k → rowOf b W = some k ∨ W.heap.size ≤ k
 lt : (∀ k, rowOf b W = some k → k < W.heap.size) → ∀ k, rowOf b W' = some k → k < W'.heap.size
theorem KeepB.refl (b : Nat) (W : World) : KeepB b W W := ⟨Nat.le_refl _, fun _ _ _ _ h _ _ => h, fun _ h => .inl h, fun h => h⟩
theorem KeepB.trans {b : Nat} {A B C : World} (h : KeepB b A B) (h' : KeepB b B C) : KeepB b A C := by
 refine ⟨Nat.le_trans h.size h'.size, fun k cs t fr hk hb hr => h'.block k cs t fr (h.block k cs t fr hk hb hr) hb fun e => ?_, fun k e => ?_, fun hl => h'.lt (h.lt hl)⟩
 ·have hl := lt_of_block hk
  rcases h.row k e with e' | e'
  ·exact hr e'
  ·omega
 ·rcases h'.row k e with e' | e'
  ·exact h.row k e'
  ·have := h.size
   exact .inr (by omega)
theorem KeepB.putObj {b n : Nat} (hb : b < n) (W : World) (l : Nat) (o o' : Obj) (hn : n ≤ l) (hl : W.heap[l]? = some o) (ho : o.isCells = false) : KeepB b W (W.putObj l o') := by
 have hr : rowOf b (W.putObj l o') = rowOf b W := rowOf_same (World.putObj_heap_other (show b ≠ l by omega))
 refine ⟨by simp, fun k cs t fr hk _ _ => (World.putObj_heap_other (fun e => ?_)).trans hk, fun k e => .inl (by rw [← hr]; exact e), fun h k e => by simpa using h k (by rw [← hr]; exact e)⟩
 subst e
 rw [hl] at hk
 cases hk
 cases ho
theorem KeepB.below {b : Nat} {W W' : World} (h : Below W.heap.size W W') (hb : b < W.heap.size) : KeepB b W W' := by
 have hr := rowOf_same (h.block b hb)
 exact ⟨h.size, fun k cs t fr hk _ _ => (h.block k (lt_of_block hk)).trans hk, fun k e => .inl (by rw [← hr]; exact e), fun hl k e => by have := hl k (by rw [← hr]; exact e); have := h.size; omega⟩
theorem KeepB.keeps {b : Nat} {W2 W : World} (h : KeepB b W2 W) (hr : rowOf b W2 = none) : Keeps (off (some b) W2) W := fun a v hx => by
 unfold off at hx
 rw [mask_cell] at hx
 split at hx
 ·rename_i hp
  have hne : a.block ≠ b := fun e => by simp [e] at hp
  unfold World.cell? at hx ⊢
  cases ho : W2.heap[a.block]? with
  | none => rw [ho] at hx; cases hx
  | some o => cases o with
   | cells cs t fr => rw [ho] at hx; rw [h.block _ cs t fr ho hne (by rw [hr]; exact fun e => nomatch e)]; exact hx
   | _ => rw [ho] at hx; cases hx
 ·cases hx
theorem xel_sum (ls : List XEl) : (ls.map fun x => x.cells.length).sum = ls.length * 3 := by
 induction ls with
 | nil => rfl
 | cons x ls ih =>
  rw [List.map_cons, List.sum_cons, ih, xel_len, List.length_cons]
  omega
theorem above_cells {N b : Nat} {g : Option Nat} {w w' : World} (h : ∀ k, N ≤ k → k < w.heap.size → some k ≠ g → w'.heap[k]? = w.heap[k]? ∧ k ≠ b) : Keeps (above N (off g w)) (off (some b) w') := fun a v hx => by
 unfold above off at *
 rw [mask_cell] at hx
 split at hx
 ·rename_i hp
  rw [mask_cell] at hx
  split at hx
  ·rename_i hq
   simp only [decide_eq_true_eq] at hp hq
   obtain ⟨h1, h2⟩ := h a.block hp (block_lt_of_cell hx) hq
   rw [mask_cell, if_pos (show decide (some a.block ≠ some b) = true from decide_eq_true (fun e => h2 (Option.some.inj e)))]
   unfold World.cell? at hx ⊢
   rw [h1]
   exact hx
  ·cases hx
 ·cases hx
def pairsOf (y : XEl) : List (ByteArray × DEl) := y.ops.map fun e => ((y.name ++ ⟨#[46]⟩) ++ e.d.name, e)
theorem pairs_names (ys : List XEl) : (ys.flatMap pairsOf).map (·.1) = (ys.map XEl.d).flatMap namesOf := by
 induction ys with
 | nil => rfl
 | cons y ys ih =>
  rw [List.flatMap_cons, List.map_append, ih, List.map_cons, List.flatMap_cons]
  congr 1
  show _ = (y.ops.map (·.d)).map _
  unfold pairsOf
  rw [List.map_map, List.map_map]
  rfl
def DefsEnd (ns : List ByteArray) (J Jx : List (ByteArray × DEl) → World → Prop) (e : Ending) (W' : World) : Prop := (∃ v, e = .returned v) ∧ ((∃ ps : List (ByteArray × DEl), ps.map (·.1) = ns ∧ J ps W') ∨ (∃ pre, True ∧ Jx pre W'))
structure DefW (b : Nat) (ao : Option Addr) (ys : List XEl) (W2 : World) : Prop where
 row : RowIs (off (some b) W2) ao ys.length (ys.flatMap XEl.cells)
 ops : ∀ y ∈ ys, RowIs (off (some b) W2) y.po y.ops.length (y.ops.flatMap DEl.cells)
theorem off_above {b N : Nat} {w : World} (h : b < N) : Keeps (above N w) (off (some b) w) := mask_keeps fun k hp _ => ⟨by
 simp only [decide_eq_true_eq] at hp ⊢
 intro e
 cases e
 omega, rfl⟩
theorem opIn_append {F : Fence} {m : Nat} {o : Oper} {a : Act} {K : Act → World → Prop} {Q : Exit → Act → World → Prop} {w w' : World} {v u t : Value} (T : TypeId) (s x : Operand) (ho : o.op = .call { callee := .builtin .append, args := #[s, x], argTypes := #[T, T] })
  (hs : a.eval s = u) (hx : a.eval x = t) (hr : (Builtin.append_ #[T, T] o.type #[u, t]).run Tryz.prog w = .ok v w') (hK : K (a.put o.dst v) w') : o.wpIn F m Tryz.prog a w K Q := by
 unfold Oper.wpIn
 refine ⟨?_, ?_⟩
 ·simp [Oper.about, ho, resolve, Target.leads, Sem.run_pure]
 ·rw [Oper.semAt_plain F _ _ (by rw [ho]; intro c hc'; cases hc')]
  simp [execOp, ho, resolve, invoke, builtin, hs, hx, hr, Result.andThen]
  exact hK
set_option maxRecDepth 100000 in
set_option maxHeartbeats 8000000 in
theorem defs1_in (n : Nat) (hn : 1 ≤ n) (q S b : Nat) (lo : Option Addr) (ls : List XEl) (lc : Nat) (hl : ls.length ≤ 1048576) (hns : ∀ x ∈ ls, NameSmall x.d) (J Jx : List (ByteArray × DEl) → World → Prop) (W : World)
  (hA : ∀ s X Y row, J s X → X.grownBy Y row → (∀ r, row = some r → W.heap.size ≤ r ∧ ∃ o : Obj, X.heap[r]? = some o ∧ o.isWalk = true) → J s Y)
  (hY : ∀ pre (x : ByteArray × DEl) W1, J pre W1 → pre.length < ((coreD ++ ls.map XEl.d).flatMap namesOf).length → YieldAt Fence.wide (n - 1) Tryz.prog q #[.string x.1, x.2.val] W1 fun e W' =>
   (e = .returned (.bool true) ∧ J (pre ++ [x]) W' ∧ KeepB b W1 W') ∨ (e = .returned (.bool false) ∧ Jx (pre ++ [x]) W'))
  (hS : W.heap[S]? = some (.cells #[.slice lo ls.length lc] 25 (0, 0))) (hd : DiasAt (off (some b) W) lo ls) (hb : b < W.heap.size) (hr : rowOf b W = none) (h0 : J [] W) :
  CallsIn Fence.wide n Tryz.prog 71 #[.func (.yield q) #[] #[], .pointer (some ⟨S, 0, none⟩)] W (DefsEnd ((coreD ++ ls.map XEl.d).flatMap namesOf) J Jx) := by
 have HA := hid hA
 have HY := hid hY
 have H0 := hid h0
 have HS := hid hS
 have HD := hid hd
 have HR := hid hr
 have HB := hid hb
 have HL := hid hl
 have HNS := hid hns
 clear hA hY h0 hS hd hr hb hl hns
 have HAP := hid (fun (w0 w1 : World) (h0 : w0.heap = W.heap ∧ w0.os = W.os ∧ w0.tape = W.tape ∧ w0.output = W.output) (cs : List XEl) (co : Option Addr) (cc : Nat) (hcd : cs.map XEl.d = coreD) (hrow : w1.ownsRow w0.heap.size 90 3 (.slice co cs.length cc) cs.length (cs.flatMap XEl.cells))
   (hok : ∀ x ∈ cs, DiaOK (above w0.heap.size (off (own co) w1)) x) (hb1 : Below w0.heap.size w0 w1) => show ∃ ao c2 w2, (Builtin.append_ #[25, 25] 25 #[.slice co cs.length cc, .slice lo ls.length lc]).run Tryz.prog w1 = .ok (.slice ao (cs.length + ls.length) c2) w2 ∧
    Hid (Below W.heap.size W w2 ∧ (cs ++ ls).map XEl.d = coreD ++ ls.map XEl.d ∧ DefW b ao (cs ++ ls) w2 ∧ cs.length = 7) from by
  obtain ⟨hh, ho, ht, hu⟩ := h0
  have hsz : w0.heap.size = W.heap.size := by rw [hh]
  have hB1 : Below W.heap.size W w1 := ⟨hb1.os.trans ho, hb1.tape.trans ht, hb1.output.trans hu, by have := hb1.size; omega, fun k hk => (hb1.block k (by omega)).trans (by rw [hh])⟩
  rw [hsz] at hrow hok
  have h7 : cs.length = 7 := by have := congrArg List.length hcd; rw [List.length_map, core_few.1] at this; exact this
  have hlr : RowIs w1 lo ls.length (ls.flatMap XEl.cells) := (HD.out.1.keeps off_to).below hB1
  obtain ⟨ao, c2, w2, hr2, g2, b2, k2⟩ := append_rowK (T := 25) (E := 90) (ty := 25) (w := w1) (m := ls.length) (news := ls.flatMap XEl.cells) (xo := lo) (cx := lc) Tryz.underlying25 info_dia (by decide) hrow hB1.size (by have := HL.out; omega) hlr
   (by rw [List.length_flatMap]; exact xel_sum ls) (by rw [List.all_flatMap]; exact List.all_eq_true.2 fun x _ => rfl)
  have B2 : Below W.heap.size W w2 := hB1.trans b2
  refine ⟨ao, c2, w2, hr2, B2, by rw [List.map_append, hcd], ⟨?_, fun y hy => ?_⟩, h7⟩
  ·rw [List.length_append, List.flatMap_append]
   exact (row_own (own_above g2)).1.keeps (off_above HB.out)
  ·rcases List.mem_append.1 hy with hy | hy
   ·exact (hok y hy).ops.1.keeps (above_cells (fun k hN hk hne => ⟨k2 k hk hne, fun e => by have := HB.out; cases e; omega⟩))
   ·exact (HD.out.2 y hy).ops.1.keeps (off_below B2))
 obtain ⟨al, hal⟩ : ∃ al, al = coreD ++ ls.map XEl.d := ⟨_, rfl⟩
 rw [← hal] at HY HAP ⊢
 have HSM := hid (show ∀ x ∈ al, NameSmall x from fun x hx => by
  rw [hal] at hx
  rcases List.mem_append.1 hx with h | h
  ·exact core_nameSmall x h
  ·obtain ⟨y, hy, rfl⟩ := List.mem_map.1 h
   exact HNS.out y hy)
 clear hal HNS
 have cS := cell_of_row W S 0 _ _ _ HS.out
 refine callsIn_of_wp Tryz.func71 rfl trivial ?_ rfl
 simp only [Tryz.ntmps71, List.size_toArray, List.length_cons, List.length_nil, Nat.reduceAdd, Nat.reduceSub, Array.replicate_succ, Array.replicate_zero, List.push_toArray, List.append_toArray, List.nil_append, List.cons_append]
 gi_wp2_with fail
 refine wpIn_region_any (by kernel_rfl) ?_
 change wpAnyIn _ _ _ _ _ _ _ _ _ (World.drew _)
 refine wpAnyIn_take (i := 4) (v := .int .i64 0) rfl rfl (by kernel_rfl) (by kernel_rfl) (by kernel_rfl) (fun _ _ _ h => h) ⟨Or.inl ⟨by rfl, ?_⟩, fun _ => rfl⟩ ?_
 ·intro w
  go_simp
 refine wpAnyIn_ready (rs := [0, 1]) (by kernel_rfl) (by simp) ?_
 refine AllReadyIn.cons rfl (fun K hK => ?_) (AllReadyIn.cons rfl (fun K hK => ?_) AllReadyIn.nil)
 go_simp
 refine ⟨trivial, callsIn_wide.2 ((CoreO_any _).mono ?_)⟩
 rintro e w1 ⟨cs, co, cc, rfl, hcd, hrow, hok, hb1⟩
 obtain ⟨ao, c2, w2, hr2, HX⟩ := HAP.out W.drew w1 ⟨rfl, rfl, rfl, rfl⟩ cs co cc hcd hrow hok hb1
 have c1 : w1.cell? ⟨S, 0, none⟩ = some (.slice lo ls.length lc) := cell_of_row w1 S 0 _ _ _ ((show w1.heap[S]? = _ from (hb1.block S (show S < W.heap.size from lt_of_block HS.out)).trans HS.out))
 clear hcd hrow hok hb1 cS HAP
 go_simp
 refine hK _ _ ?_
 clear hK K
 refine wpAnyIn_ready (rs := [1]) (by kernel_rfl) (by simp) ?_
 refine AllReadyIn.cons rfl (fun K hK => ?_) AllReadyIn.nil
 go_simp
 refine hK _ _ ?_
 clear hK K c1
 refine wpAnyIn_ready (rs := [2]) (by kernel_rfl) (by simp) ?_
 refine AllReadyIn.cons rfl (fun K hK => ?_) AllReadyIn.nil
 refine Eq.mpr (if_pos rfl) ?_
 refine opIn_append 25 _ _ rfl rfl rfl hr2 ?_
 refine hK _ _ ?_
 clear hK K hr2
 refine wpAnyIn_ready (rs := [3]) (by kernel_rfl) (by simp) ?_
 refine AllReadyIn.cons rfl (fun K hK => ?_) AllReadyIn.nil
 go_simp
 refine hK _ _ ?_
 clear hK K
 refine wpAnyIn_done (by kernel_rfl) ?_ _
 rotate_left
 go_simp
 refine hK _ _ ?_
 clear hK K
 refine wpAnyIn_ready (rs := [0]) (by kernel_rfl) (by simp) ?_
 refine AllReadyIn.cons rfl (fun K hK => ?_) AllReadyIn.nil
 go_simp
 refine ⟨trivial, callsIn_wide.2 ((CoreO_any _).mono ?_)⟩
 rintro e w1 ⟨cs, co, cc, rfl, hcd, hrow, hok, hb1⟩
 obtain ⟨ao, c2, w2, hr2, HX⟩ := HAP.out W.drew w1 ⟨rfl, rfl, rfl, rfl⟩ cs co cc hcd hrow hok hb1
 clear hcd hrow hok hb1 cS HAP
 go_simp
 refine hK _ _ ?_
 clear hK K
 refine wpAnyIn_ready (rs := [2]) (by kernel_rfl) (by simp) ?_
 refine AllReadyIn.cons rfl (fun K hK => ?_) AllReadyIn.nil
 refine Eq.mpr (if_pos rfl) ?_
 refine opIn_append 25 _ _ rfl rfl rfl hr2 ?_
 refine hK _ _ ?_
 clear hK K hr2
 refine wpAnyIn_ready (rs := [3]) (by kernel_rfl) (by simp) ?_
 refine AllReadyIn.cons rfl (fun K hK => ?_) AllReadyIn.nil
 go_simp
 refine hK _ _ ?_
 clear hK K
 refine wpAnyIn_done (by kernel_rfl) ?_ _
 all_goals
  obtain ⟨ys, hys⟩ : ∃ ys, ys = cs ++ ls := ⟨_, rfl⟩
  rw [← hys] at HX
  have HYL := hid (show cs.length + ls.length = ys.length by rw [hys, List.length_append])
  rw [HYL.out]
  have hyi : (cs.length : Int) + (ls.length : Int) = (ys.length : Int) := by have := HYL.out; omega
  rw [hyi]
  have HYB := hid (show ys.length ≤ 2000000 by have := HYL.out; have := HL.out; have := HX.out.2.2.2; omega)
  have HJ2 := hid (HA.out [] W w2 none H0.out ⟨HX.out.1.os, HX.out.1.tape, HX.out.1.output, HX.out.1.size, fun k hk _ => HX.out.1.block k hk⟩ (fun r e => by cases e))
  have HR2 := hid (show rowOf b w2 = none from (rowOf_same (HX.out.1.block b HB.out)).trans HR.out)
  have HB2 := hid (show b < w2.heap.size from Nat.lt_of_lt_of_le HB.out HX.out.1.size)
  have HWS := hid HX.out.1.size
  have HDW := hid HX.out.2.2.1
  have HAL := hid HX.out.2.1
  have hyi2 : (ys.length : Int) ≤ 2000000 := by have := HYB.out; omega
  clear hys hyi H0 HX HS HD HR HL
  gi_wp2_with fail
  gi_loopw [11] (fun iv wr => ∃ (i : Nat) (pre : List (ByteArray × DEl)), i ≤ ys.length ∧ iv = .int .i64 i ∧ Hid (pre = (ys.take i).flatMap pairsOf ∧ J pre wr ∧ KeepB b w2 wr)) (fun iv _ => ys.length - (intOf iv).toNat)
  case atStart => exact ⟨0, [], Nat.zero_le _, rfl, rfl, HJ2.out, KeepB.refl _ _⟩
  case round =>
   obtain ⟨i, pre, hi, rfl, HI⟩ := hrel
   have hii : (i : Int) ≤ (ys.length : Int) := by omega
   by_cases hlt : i < ys.length
   rotate_left
   ·have hge : ¬ (i : Int) < (ys.length : Int) := by omega
    have HEND := hid (show pre.map (·.1) = al.flatMap namesOf by
     rw [HI.out.1, List.take_of_length_le (by omega), pairs_names, HAL.out])
    clear hlt hi
    gi_wp2_with fail
    go_end0
    exact ⟨⟨_, rfl⟩, .inl ⟨pre, HEND.out, HI.out.2.1⟩⟩
   have hlti : (i : Int) < (ys.length : Int) := by omega
   have hjs := List.getElem?_eq_getElem hlt
   obtain ⟨bk, o, e1, kk⟩ := RowIs.at xel_len (HDW.out.row.keeps (HI.out.2.2.keeps HR2.out)) hjs
   have hops := HDW.out.ops _ (List.getElem_mem hlt)
   obtain rfl : ao = _ := e1
   generalize ys[i]'hlt = y at hjs kk hops
   have hsm := HSM.out y.d (by rw [← HAL.out]; exact List.mem_map.2 ⟨y, List.mem_of_getElem? hjs, rfl⟩)
   have k0 : wr.cell? ⟨bk, o + i * 3, none⟩ = some (.string y.name) := kk 0 _ rfl
   have k1 := kk 1 _ rfl
   have k2 := kk 2 _ rfl
   have HTK := hid (show (ys.take (i + 1)).flatMap pairsOf = pre ++ pairsOf y by
    obtain ⟨h1, h2⟩ := List.getElem?_eq_some_iff.1 hjs
    rw [List.take_succ_eq_append_getElem h1, List.flatMap_append, h2, List.flatMap_singleton, HI.out.1])
   have HTL := hid (show ∀ j, j < y.ops.length → (pre ++ (pairsOf y).take j).length < (al.flatMap namesOf).length from fun j hj => by
    have h1 : ((ys.take (i + 1)).flatMap pairsOf).length ≤ (ys.flatMap pairsOf).length := by
     conv => rhs; rw [← List.take_append_drop (i + 1) ys, List.flatMap_append, List.length_append]
     omega
    have h2 : (al.flatMap namesOf).length = (ys.flatMap pairsOf).length := by rw [← HAL.out, ← pairs_names, List.length_map]
    have h3 : (pairsOf y).length = y.ops.length := List.length_map _
    rw [HTK.out, List.length_append] at h1
    rw [List.length_append, List.length_take]
    omega)
   have HOPS := hid hops
   have HSY := hid hsm
   have HLT := hid hlt
   have HPL := hid (show y.ops.length ≤ 1048576 from by have := hsm.lo; rwa [show y.d.ops = y.ops.map (·.d) from rfl, List.length_map] at this)
   have hpli : (y.ops.length : Int) ≤ 1048576 := by have := HPL.out; omega
   have HBR := hid (Nat.lt_of_lt_of_le HB2.out HI.out.2.2.size)
   have HNB := hid (new_below wr (.cells #[.string y.name, .slice y.yo y.types.length y.yc, .slice y.po y.ops.length y.pc] 90))
   have HT := hid (heap_alloc_new wr (.cells #[.string y.name, .slice y.yo y.types.length y.yc, .slice y.po y.ops.length y.pc] 90))
   have HJ3 := hid (HA.out _ _ _ none HI.out.2.1 (World.grownBy_alloc wr (.cells #[.string y.name, .slice y.yo y.types.length y.yc, .slice y.po y.ops.length y.pc] 90) none) (fun r e => by cases e))
   have hc3 := cells3 HT.out
   clear hjs kk hops hsm hlt hi
   gi_wp2_with fail
   clear hc3 k0 k1 k2
   generalize wr.alloc (.cells #[.string y.name, .slice y.yo y.types.length y.yc, .slice y.po y.ops.length y.pc] 90) = w3 at HNB HT HJ3 ⊢
   have HK3 := hid (KeepB.below HNB.out HBR.out)
   have HB3 := hid (Nat.lt_of_lt_of_le HBR.out HNB.out.size)
   have HKW := hid (HI.out.2.2.trans HK3.out)
   have HNE := hid (show wr.heap.size ≠ b ∧ rowOf b w3 ≠ some wr.heap.size from ⟨by have := HBR.out; omega, fun e => by
    rw [rowOf_same (HNB.out.block b HBR.out)] at e
    have := HI.out.2.2.lt (fun k e => by rw [HR2.out] at e; cases e) _ e
    omega⟩)
   have HWS3 := hid (Nat.le_trans HWS.out HKW.out.size)
   generalize wr.heap.size = D3 at HT HNE ⊢
   gi_loopw [18] (fun jv wr2 => ∃ (j : Nat), j ≤ y.ops.length ∧ jv = .int .i64 j ∧ Hid (J (pre ++ (pairsOf y).take j) wr2 ∧ KeepB b w3 wr2)) (fun jv _ => y.ops.length - (intOf jv).toNat)
   case atStart => exact ⟨0, Nat.zero_le _, rfl, by rw [List.take_zero, List.append_nil]; exact HJ3.out, KeepB.refl _ _⟩
   case round =>
    obtain ⟨j, hj, rfl, HJ⟩ := hrel
    have hji : (j : Int) ≤ (y.ops.length : Int) := by omega
    by_cases hlt : j < y.ops.length
    rotate_left
    ·have hge : ¬ (j : Int) < (y.ops.length : Int) := by omega
     have HN := hid (show J ((ys.take (i + 1)).flatMap pairsOf) _ by
      have := HJ.out.1
      rw [List.take_of_length_le (show (pairsOf y).length ≤ j by unfold pairsOf; rw [List.length_map]; omega)] at this
      rw [HTK.out]
      exact this)
     clear hlt hj
     gi_wp2_with fail
     go_roundw
     case rel => exact ⟨i + 1, _, HLT.out, by go_num, rfl, HN.out, HKW.out.trans HJ.out.2⟩
     case measure => have := HLT.out; simp only [intOf]; omega
    have hltj : (j : Int) < (y.ops.length : Int) := by omega
    have hjs := List.getElem?_eq_getElem hlt
    obtain ⟨bj, p, e1, kk⟩ := RowIs.at del_len (HOPS.out.keeps ((HKW.out.trans HJ.out.2).keeps HR2.out)) hjs
    generalize y.ops[j]'hlt = e at hjs kk
    have hse := HSY.out.each e.d (List.mem_map.2 ⟨e, List.mem_of_getElem? hjs, rfl⟩)
    have k0 := kk 0 _ rfl
    have k1 := kk 1 _ rfl
    have k2 := kk 2 _ rfl
    have k3 := kk 3 _ rfl
    have k4 := kk 4 _ rfl
    have k5 := kk 5 _ rfl
    have k6 := kk 6 _ rfl
    rw [Nat.add_zero] at k0
    rw [e1]
    have hadd1 := add_strings y.name ⟨#[46]⟩ (by have := HSY.out.zn; rw [show y.d.name = y.name from rfl] at this; omega) (by decide)
    have hadd2 := add_strings (y.name ++ ⟨#[46]⟩) e.d.name (by rw [ByteArray.size_append]; have := HSY.out.zn; rw [show y.d.name = y.name from rfl] at this; have : (⟨#[46]⟩ : ByteArray).size = 1 := rfl; omega) (by omega)
    have HT2 := hid (HJ.out.2.block _ _ _ _ HT.out HNE.out.1 HNE.out.2)
    have HGB := hid (World.grownBy_alloc wr (.cells #[.string e.d.name, .slice e.io e.d.ins.length e.ic, .slice e.oo e.d.outs.length e.oc, .slice e.no e.d.needs.length e.nc, .int .i64 e.d.regions, .int .i64 e.d.succs, .slice e.ko e.d.traits.length e.kc] 36) none)
    have HN2 := hid (new_below wr (.cells #[.string e.d.name, .slice e.io e.d.ins.length e.ic, .slice e.oo e.d.outs.length e.oc, .slice e.no e.d.needs.length e.nc, .int .i64 e.d.regions, .int .i64 e.d.succs, .slice e.ko e.d.traits.length e.kc] 36))
    have HT5 := hid (heap_alloc_new wr (.cells #[.string e.d.name, .slice e.io e.d.ins.length e.ic, .slice e.oo e.d.outs.length e.oc, .slice e.no e.d.needs.length e.nc, .int .i64 e.d.regions, .int .i64 e.d.succs, .slice e.ko e.d.traits.length e.kc] 36))
    have HT4 := hid ((HN2.out.block _ (lt_of_block HT2.out)).trans HT2.out)
    have HJ5 := hid (HA.out _ _ _ none HJ.out.1 HGB.out (fun r e => by cases e))
    have HB5 := hid (Nat.lt_of_lt_of_le HB3.out HJ.out.2.size)
    have HNX := hid (show (pairsOf y).take (j + 1) = (pairsOf y).take j ++ [((y.name ++ ⟨#[46]⟩) ++ e.d.name, e)] by
     have hq : (pairsOf y)[j]? = some ((y.name ++ ⟨#[46]⟩) ++ e.d.name, e) := by unfold pairsOf; rw [List.getElem?_map, hjs]; rfl
     obtain ⟨h1, h2⟩ := List.getElem?_eq_some_iff.1 hq
     rw [List.take_succ_eq_append_getElem h1, h2])
    have HLJ := hid hlt
    obtain ⟨fn, tmps, assign, bd, hyd, hR⟩ := HY.out _ ((y.name ++ ⟨#[46]⟩) ++ e.d.name, e) _ HJ5.out (HTL.out j hlt)
    have HR5 := hid hR
    have hc4 := cells3 HT4.out
    have hc5 := dcells7 HT5.out
    have hc2 := cells3 HT2.out
    unfold DEl.val at hyd
    dsimp only at hyd
    clear hR kk hjs hse hlt hj
    gi_wp2_with fail
    clear hc4 hc5 hc2 k0 k1 k2 k3 k4 k5 k6 hadd1 hadd2 hyd
    refine HR5.out.mono ?_
    rintro e' W3 (⟨rfl, hJ3, hk3⟩ | ⟨rfl, hJx3⟩)
    ·have HN := hid (show J (pre ++ (pairsOf y).take (j + 1)) W3 by rw [HNX.out, ← List.append_assoc]; exact hJ3)
     have HKN := hid ((HJ.out.2.trans (KeepB.below HN2.out HB5.out)).trans hk3)
     clear hJ3 hk3
     gi_wp2_with fail
     go_roundw
     case rel => exact ⟨j + 1, HLJ.out, by go_num, HN.out, HKN.out⟩
     case measure => have := HLJ.out; simp only [intOf]; omega
    ·have HJX := hid hJx3
     clear hJx3
     gi_wp2_with fail
     refine bodyPost_ret (results_none rfl _ _ _) rfl ?_
     exact ⟨⟨_, rfl⟩, .inr ⟨_, trivial, HJX.out⟩⟩
theorem defs_stops (n : Nat) (hn : 1 ≤ n) (S b : Nat) (lo : Option Addr) (ls : List XEl) (lc : Nat) (hl : ls.length ≤ 1048576) (hns : ∀ x ∈ ls, NameSmall x.d) (w : World)
  (hS : w.heap[S]? = some (.cells #[.slice lo ls.length lc] 25 (0, 0))) (hd : DiasAt (off (some b) w) lo ls) (hb : b < w.heap.size) (hr : rowOf b w = none) :
  SeqStopsK Fence.wide n Tryz.prog 71 #[.pointer (some ⟨S, 0, none⟩)] (fun x : ByteArray × DEl => #[.string x.1, x.2.val]) (KeepB b) (fun ps => ps.map (·.1) = (coreD ++ ls.map XEl.d).flatMap namesOf) (fun _ => True) ((coreD ++ ls.map XEl.d).flatMap namesOf).length w := fun l J Jx W hW hJ _ hY h0 =>
 defs1_in n hn l S b lo ls lc hl hns J Jx W hJ hY ((hW.block S (lt_of_block hS)).trans hS) (hd.keeps (off_below hW)) (Nat.lt_of_lt_of_le hb hW.size) ((rowOf_same (hW.block b hb)).trans hr) h0
end Go.Proofs.YtgimdkgjfenafaaGreatDoor
