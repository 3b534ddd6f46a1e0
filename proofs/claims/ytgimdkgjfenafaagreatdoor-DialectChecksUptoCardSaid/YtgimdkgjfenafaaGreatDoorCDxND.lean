import Derived.Test.YtgimdkgjfenafaaGreatDoorCDxNB
import Derived.Test.YtgimdkgjfenafaaGreatDoorCG31
import Derived.Test.YtgimdkgjfenafaaGreatDoorCShelfS
import Derived.Test.YtgimdkgjfenafaaGreatDoorCG19
import Derived.Test.YtgimdkgjfenafaaGreatDoorCJDxLB
import Derived.Test.YtgimdkgjfenafaaGreatDoorCJDxPB
import Derived.Test.YtgimdkgjfenafaaGreatDoorCG20
import Derived.Test.YtgimdkgjfenafaaGreatDoorCG45
namespace Go.Proofs.YtgimdkgjfenafaaGreatDoor
open Go.RowKit
open Lib (hid)
attribute [local go_sem] Oper.semAt_some
theorem names_sum : ∀ (xs : List DiaD), (∀ x ∈ xs, x.ops.length ≤ 60) → (xs.flatMap namesOf).length ≤ xs.length * 60
 | [], _ => Nat.le_refl _
 | x :: xs, h => by
  have ih := names_sum xs fun y hy => h y (List.mem_cons.2 (.inr hy))
  have h1 := h x (List.mem_cons.2 (.inl rfl))
  have h2 : (namesOf x).length = x.ops.length := List.length_map _
  rw [List.flatMap_cons, List.length_append, List.length_cons]
  omega
theorem names_few {xs : List DiaD} (h : rightXs xs = true) : ((coreD ++ xs).flatMap namesOf).length ≤ 1000 ∧ 0 < ((coreD ++ xs).flatMap namesOf).length := by
 unfold rightXs at h
 rw [Bool.and_eq_true, Bool.and_eq_true, decide_eq_true_iff] at h
 have h1 := names_sum xs fun x hx => by
  have := List.all_eq_true.1 h.2 x hx
  unfold goodX rightX at this
  simp only [Bool.and_eq_true, decide_eq_true_iff] at this
  exact this.2.1.1.1.1.2
 have h2 := core_few
 rw [List.flatMap_append, List.length_append]
 omega
theorem names_few' {xs : List DiaD} (h : rightXs xs = true) : ((allL coreD xs).flatMap namesOf).length ≤ 1000 := by
 rw [(names_perm xs coreD).length_eq]
 exact (names_few h).1
theorem bl_inj {a b : ByteArray} (h : bl a = bl b) : a = b := ByteArray.ext (Array.toList_inj.1 h)
theorem map_inj {α β : Type} {f : α → β} (hf : ∀ {a b}, f a = f b → a = b) : ∀ {l l' : List α}, l.map f = l'.map f → l = l'
 | [], [], _ => rfl
 | [], _ :: _, h => by cases h
 | _ :: _, [], h => by cases h
 | a :: l, b :: l', h => by
  rw [List.map_cons, List.map_cons] at h
  injection h with h1 h2
  rw [hf h1, map_inj hf h2]
theorem fold_same (xs : List DiaD) : ((coreD ++ xs).flatMap namesOf).foldl insR [] = ((allL coreD xs).flatMap namesOf).foldl insR [] :=
 map_inj bl_inj ((sort_one (List.Perm.refl ((coreD ++ xs).flatMap namesOf))).symm.trans (sort_one (names_perm xs coreD).symm))
theorem Sort_any (b g c : Nat) (es : List ByteArray) (W : World) (hown : W.ownsRow b 9 1 (.slice (some ⟨g, 0, none⟩) es.length c) es.length (es.map .string)) (h0 : 0 < es.length) (hl : es.length ≤ 2000000) :
  Calls Tryz.prog 41 #[.slice (some ⟨g, 0, none⟩) es.length c] W fun e w' => e = .returned (.tuple #[]) ∧ StrsAt w' (some ⟨g, 0, none⟩) (es.foldl insR []) ∧ W.grownBy w' (some g) := by
 obtain ⟨hg, hc⟩ : (∃ cur, W.heap[g]? = some (.cells cur 9 (0, 0))) ∧ ∀ j (s : ByteArray), es[j]? = some s → W.cell? ⟨g, j, none⟩ = some (.string s) := by
  refine ⟨?_, fun j s hj => ?_⟩
  ·rcases hown.2 with ⟨hv, _⟩ | ⟨g', cap, cur, hv, _, hg, _⟩
   ·cases hv
   ·cases hv
    exact ⟨cur, hg⟩
  ·rcases (row_own hown).1 with h | ⟨bk, o, e, h⟩
   ·omega
   ·cases e
    have := h j (.string s) (by rw [List.getElem?_map, hj]; rfl)
    rwa [Nat.zero_add] at this
 obtain ⟨cur, hg⟩ := hg
 have hH : Sort.Holds encStr W g 0 (es.map bl).toArray := fun j hj => by
  have hj' : j < es.length := by simpa using hj
  refine ⟨?_, by simp [World.frozen?, hg]⟩
  rw [Nat.zero_add, hc j es[j] (List.getElem?_eq_getElem hj'), getElem!_pos _ j (by simpa using hj)]
  simp
 have hcon := AnyM.slices_Sort_string Tryz.sort41 g 0 c (es.map bl) W hH (lt_of_block hg) (by rw [List.length_map]; omega)
 rw [List.length_map] at hcon
 refine (show Calls Tryz.prog 41 _ _ _ from hcon).mono ?_
 rintro e w' ⟨rfl, n, os, rfl⟩
 have hso := sort_one (List.Perm.refl es)
 rw [hso]
 have hsz : ((es.foldl insR []).map bl).toArray.size = (es.map bl).toArray.size := by simp [fold_len]
 have hbs : g < (Sort.putRow encStr (Sort.ahead W n) g 0 ((es.foldl insR []).map bl).toArray).heap.size := by
  rw [Sort.size_putRow]
  exact lt_of_block hg
 refine ⟨rfl, .inr ⟨_, rfl, fun j hj => ?_⟩, ⟨rfl, rfl, rfl, by rw [Sort.size_grow, Sort.size_putRow]; exact Nat.le_add_right _ _, fun k hk hne => ?_⟩⟩
 ·rw [Addr.add_lit, Sort.cell?_grow _ _ _ hbs]
  have h1 := Sort.cell?_putRow encStr (Sort.ahead W n) g 0 (es.map bl).toArray ((es.foldl insR []).map bl).toArray hH hsz j (by simpa using hj)
  rw [h1, getElem!_pos _ j (by simpa using hj), List.getElem?_eq_getElem hj]
  simp
 ·rw [Sort.heap_grow_old _ _ (by rw [Sort.size_putRow]; exact hk)]
  show (W.heap.modify g _)[k]? = _
  rw [Array.getElem?_modify, if_neg (fun e => hne (by rw [e]))]
theorem StrsAt.put {w : World} {ao : Option Addr} {ss : List ByteArray} {l : Nat} {o : Obj} (h : StrsAt w ao ss) (hl : w.heap[l]? = some o) (ho : o.isCells = false) (o' : Obj) : StrsAt (w.putObj l o') ao ss := by
 rcases h with h | ⟨a, rfl, hc⟩
 ·exact .inl h
 ·refine .inr ⟨a, rfl, fun j hj => ?_⟩
  have h1 := hc j hj
  have hne : (a.add j).block ≠ l := by
   intro e
   unfold World.cell? at h1
   rw [e, hl] at h1
   cases o <;> simp [Obj.isCells] at ho h1
  rw [← h1]
  unfold World.cell?
  rw [World.putObj_heap_other hne]
theorem definitions_any (lo : Option Addr) (n c : Nat) (w : World) : Calls Tryz.prog 40 #[.slice lo n c] w fun e w' => e = .returned (.func (.func 71) #[] #[.pointer (some ⟨w.heap.size, 0, none⟩)]) ∧ w' = w.alloc (.cells #[.slice lo n c] 25) := by
 go_enter Tryz.func40, Tryz.ntmps40
 go_wp2
 go_ret
 exact ⟨rfl, rfl⟩
structure ColN (b : Nat) (w : World) (es : List ByteArray) (W : World) : Prop where
 box : ∃ ao c, W.heap[b]? = some (.cells #[.slice ao es.length c] 27 (0, 0)) ∧ W.ownsRow (b + 1) 9 1 (.slice ao es.length c) es.length (es.map .string)
 below : Below b w W
 size : b + 1 ≤ W.heap.size
theorem colN_own (b : Nat) (w : World) (B : Nat) (hB : b ≤ B) : OwnFrom B (fun (pre : List (ByteArray × DEl)) W => ColN b w (pre.map (·.1)) W) := by
 intro s X Y row h hg hr
 have ncell : ∀ {k : Nat} {cs : Array Value} {t : TypeId} {fr : Nat × Nat}, X.heap[k]? = some (.cells cs t fr) → some k ≠ row := by
  intro k cs t fr hk e
  obtain ⟨_, o, ho, hc⟩ := hr k e.symm
  rw [hk] at ho
  cases ho
  cases hc
 obtain ⟨ao, c, hv, ho⟩ := h.box
 refine ⟨⟨ao, c, (hg.block _ (lt_of_block hv) (ncell hv)).trans hv, ho.kept hg ?_⟩, h.below.grown hg (by have := h.size; omega) (fun k e => Nat.le_trans hB (hr k e).1), Nat.le_trans h.size hg.size⟩
 rcases ho.2 with ⟨h1, _⟩ | ⟨g, cap, cur, h1, _, hh, _⟩
 ·rw [h1]; exact .inl rfl
 ·rw [h1]; exact .inr (ncell hh)
theorem keepB_push {b n m c c' : Nat} {W w3 : World} {ao ao' : Option Addr} {T : TypeId} (hbx : W.heap[b]? = some (.cells #[.slice ao n c] T (0, 0))) (hbx3 : w3.heap[b]? = some (.cells #[.slice ao n c] T (0, 0))) (hk : ∀ k, k < W.heap.size → some k ≠ own ao → w3.heap[k]? = W.heap[k]?) (hs : W.heap.size ≤ w3.heap.size)
  (hr : ∀ k, own ao' = some k → own ao = some k ∨ W.heap.size ≤ k) (hl : ∀ k, own ao' = some k → k < w3.heap.size) : KeepB b W (w3.setCell ⟨b, 0, none⟩ (.slice ao' m c')) := by
 have h1 : rowOf b W = own ao := by
  unfold rowOf
  rw [cell_of_row W b 0 _ _ _ hbx]
  exact own_block ao n c
 have h2 : rowOf b (w3.setCell ⟨b, 0, none⟩ (.slice ao' m c')) = own ao' := by
  unfold rowOf
  rw [cell_of_row _ b 0 _ _ _ (heap_setCell_same _ _ 0 _ _ _ hbx3)]
  exact own_block ao' m c'
 refine ⟨by rw [setCell_size]; exact hs, fun k cs t fr h hb hn => (heap_setCell_other _ _ _ _ hb).trans ((hk k (lt_of_block h) (fun e => hn (by rw [h1]; exact e.symm))).trans h), fun k e => ?_, fun _ k e => ?_⟩
 ·rw [h2] at e
  rw [h1]
  exact hr k e
 ·rw [h2] at e
  rw [setCell_size]
  exact hl k e
theorem below_off {w w' : World} (h : Below w.heap.size w w') : Keeps w (off (some w.heap.size) w') := fun a v hx => by
 have hl := block_lt_of_cell hx
 unfold off
 rw [mask_cell, if_pos (show decide (some a.block ≠ some w.heap.size) = true from decide_eq_true (fun e => by injection e with e; omega))]
 exact (h.cell hl).trans hx
theorem two_below' (w : World) (o o' : Obj) : Below w.heap.size w ((w.alloc o).alloc o') := ((Below.refl _ w).alloc (Nat.le_refl _) _).alloc (by simp) _
theorem wpListIn_run_append {F : Fence} {m : Nat} {ops : Array Oper} {rest : List Oper} {o : Oper} {a : Act} {Q : Exit → Act → World → Prop} {w w' : World} {v u t : Value} (hgd : o.guard = none) (s x : Operand) (T : TypeId) (ho : o.op = .call { callee := .builtin .append, args := #[s, x], argTypes := #[T, T] })
  (hs : a.eval s = u) (hx : a.eval x = t) (hr : (Builtin.append_ #[T, T] o.type #[u, t]).run Tryz.prog w = .ok v w') (hK : wpListIn F m Tryz.prog ops Q rest (a.put o.dst v) w') : wpListIn F m Tryz.prog ops Q (o :: rest) a w :=
 wpListIn_plain hgd fun _ hK' => opIn_append T s x ho hs hx hr (hK' _ _ hK)
def NamesP (ds : List DiaD) (w : World) (e : Ending) (w' : World) : Prop := Below w.heap.size w w' ∧ ((rightXs ds = false ∧ e = .returned (.tuple #[.slice none 0 0, .int .i64 50])) ∨
 (rightXs ds = true ∧ ∃ (ao : Option Addr) (c : Nat) (outs : List ByteArray), e = .returned (.tuple #[.slice ao outs.length c, .int .i64 0]) ∧ StrsAt w' ao outs ∧ outs = ((coreD ++ ds).flatMap namesOf).foldl insR [] ∧ outs.length ≤ 1000))
set_option maxRecDepth 100000 in
set_option maxHeartbeats 8000000 in
theorem Names_any (lo : Option Addr) (ls : List XEl) (lc : Nat) (hn : ls.length ≤ 1048576) (hf : ∀ x ∈ ls, DiaFit x.d) (hs : ∀ x ∈ ls, NameSmall x.d) (w : World) (hl : DiasAt w lo ls) (hE : Env w) :
  Calls Tryz.prog 14 #[.slice lo ls.length lc] w (NamesP (ls.map XEl.d) w) := by
 have HC := hid (isRightList_any lo ls lc (by omega) hf w hl hE)
 have HD := hid hl
 have HST := hid (fun (W : World) (S b : Nat) (h1 : W.heap[S]? = some (.cells #[.slice lo ls.length lc] 25 (0, 0))) (h2 : DiasAt (off (some b) W) lo ls) (h3 : b < W.heap.size) (h4 : rowOf b W = none) => defs_stops 5 (by omega) S b lo ls lc hn hs W h1 h2 h3 h4)
 clear hn hf hs hl hE
 obtain ⟨ds, hds⟩ : ∃ ds, ds = ls.map XEl.d := ⟨_, rfl⟩
 rw [← hds] at HC HST ⊢
 clear hds
 refine (callsIn_wide (n := 6)).1 ?_
 refine callsIn_of_wp_marks Tryz.func14 rfl trivial ?_ rfl
 simp only [Tryz.ntmps14, List.size_toArray, List.length_cons, List.length_nil, Nat.reduceAdd, Nat.reduceSub, Array.replicate_succ, Array.replicate_zero, List.push_toArray, List.append_toArray, List.nil_append, List.cons_append]
 gi_wp2_with fail
 refine ⟨trivial, callsIn_wide.2 (HC.out.mono ?_)⟩
 rintro e w1 ⟨rfl, hb⟩
 have B1 := hid hb
 have HD1 := hid (HD.out.below hb)
 clear hb HC HD
 cases hr : rightXs ds
 ·have HR := hid hr
  clear hr
  gi_wp2_with fail
  refine ⟨_, results_tmp2 rfl _ _ _, B1.out, .inl ⟨HR.out, rfl⟩⟩
 have HR := hid hr
 have HFW := hid (names_few hr)
 clear hr
 gi_wp2_with fail
 refine ⟨trivial, callsIn_wide.2 ((definitions_any lo ls.length lc _).mono ?_)⟩
 rintro e w2 ⟨rfl, rfl⟩
 have hsz : (w1.alloc (.cells #[.slice none 0 0] 27)).heap.size = w1.heap.size + 1 := by simp
 rw [hsz]
 have HB2 := hid (two_below' w1 (.cells #[.slice none 0 0] 27) (.cells #[.slice lo ls.length lc] 25))
 have HT2 := hid (show ((w1.alloc (.cells #[.slice none 0 0] 27)).alloc (.cells #[.slice lo ls.length lc] 25)).heap[w1.heap.size]? = some (.cells #[.slice none 0 0] 27 (0, 0)) from ((new_below _ _).block _ (by simp)).trans (heap_alloc_new w1 _))
 have HT3 := hid (show ((w1.alloc (.cells #[.slice none 0 0] 27)).alloc (.cells #[.slice lo ls.length lc] 25)).heap[w1.heap.size + 1]? = some (.cells #[.slice lo ls.length lc] 25 (0, 0)) from by rw [← hsz]; exact heap_alloc_new _ _)
 have HS2 := hid (show ((w1.alloc (.cells #[.slice none 0 0] 27)).alloc (.cells #[.slice lo ls.length lc] 25)).heap.size = w1.heap.size + 2 by simp)
 generalize (w1.alloc (.cells #[.slice none 0 0] 27)).alloc (.cells #[.slice lo ls.length lc] 25) = w3 at HB2 HT2 HT3 HS2 ⊢
 have HDO := hid (show DiasAt (off (some w1.heap.size) w3) lo ls from HD1.out.keeps (below_off HB2.out))
 have HW1 := hid B1.out.size
 generalize w1.heap.size = b at HB2 HT2 HT3 HS2 HDO HW1 ⊢
 have HRN := hid (show rowOf b w3 = none by unfold rowOf; rw [cell_of_row w3 b 0 _ _ _ HT2.out]; rfl)
 clear hsz
 gi_wp2_with fail
 refine wpIn_rangeFunc_ownF rfl (by omega) (gf := 71) (lb := #[.pointer (some ⟨b + 1, 0, none⟩)]) rfl trivial (enters_of Tryz.func71 (by kernel_rfl) rfl)
   (HST.out w3 (b + 1) b HT3.out HDO.out (by have := HS2.out; omega) HRN.out) (fun h h' => h.trans h') (fun W l o o' hB hl ho _ => KeepB.putObj (by have := HS2.out; omega) W l o o' hB hl ho) (Below.refl _ _) (fun _ => rfl)
   (fun pre W => ColN b w1 (pre.map (·.1)) W) (fun _ _ _ => False) (colN_own b w1 _ (by have := HS2.out; omega)) (fun _ _ _ _ _ hs _ _ => hs) ⟨⟨none, 0, HT2.out, World.ownsRow_nil _ _ _ _⟩, HB2.out, by have := HS2.out; omega⟩
   (fun x => { tmps := #[.slice lo ls.length lc, undef, .slice none 0 0, .int .i64 0, .pointer (some ⟨b, 0, none⟩), .string x.1, .slice lo ls.length lc, .bool true, .bool false, .slice lo ls.length lc, .func (.func 71) #[] #[.pointer (some ⟨b + 1, 0, none⟩)], .string x.1, x.2.val, undef, undef, undef, undef, undef, undef, undef], defers := [] }) ?assign ?body ?done ?stop
 case assign =>
  intro l x W K hK
  gi_wp2
  exact hK
 case body =>
  rintro l pre x W hC hlt
  obtain ⟨es, hes⟩ : ∃ es, es = pre.map (·.1) := ⟨_, rfl⟩
  have H3 := hid (show es.length ≤ 2000000 by rw [hes, List.length_map]; have := HFW.out.1; omega)
  rw [← hes] at hC
  have HES := hid hes
  clear hes
  obtain ⟨ao, c, hbx, hown⟩ := hC.box
  have HB := hid hC.below
  have HS := hid hC.size
  have hcell : W.cell? ⟨b, 0, none⟩ = some (.slice ao es.length c) := cell_of_row W b 0 _ _ _ hbx
  obtain ⟨ao', c', w4, hr4, g4, b4, s4, o4, k4, r4⟩ := append_name (ty := 27) hown HS.out H3.out x.1
  have hne : some b ≠ own ao := fun e => by have := (own_lt' hown b e).1; omega
  have HBX4 := hid ((k4 b (lt_of_block hbx) hne).trans hbx)
  have hf4 : w4.frozen? ⟨b, 0, none⟩ = false := by simp [World.frozen?, HBX4.out]
  have hc4 : w4.cell? ⟨b, 0, none⟩ = some (.slice ao es.length c) := cell_of_row w4 b 0 _ _ _ HBX4.out
  have HKP := hid (keepB_push (m := es.length + 1) (c' := c') hbx HBX4.out k4 s4 r4 (fun k e => (own_lt' g4 k e.symm).2))
  have HKO := hid o4
  have HG4 := hid g4
  have HB4 := hid b4
  have HR4 := hid hr4
  clear hC hown hbx hne b4 s4 o4 k4 r4 g4 hr4
  gi_wp2_with (gi_at_builtin; refine wpListIn_run_append rfl _ _ 27 rfl rfl rfl HR4.out ?_)
  have he : (pre ++ [x]).map (·.1) = es ++ [x.1] := by rw [List.map_append, HES.out]; rfl
  refine ⟨keeps_set HKO.out HBX4.out _, HKP.out, ?_⟩
  show ColN b w1 ((pre ++ [x]).map (·.1)) _
  rw [he]
  refine ⟨⟨ao', c', ?_, ?_⟩, ?_, ?_⟩
  ·refine (heap_setCell_same _ _ 0 _ _ _ HBX4.out).trans ?_
   rw [List.length_append, List.length_singleton]
   rfl
  ·rw [List.length_append, List.length_singleton]
   exact own_kept HG4.out fun k hk => heap_setCell_other _ _ _ _ (by dsimp only; omega)
  ·exact (HB.out.trans (HB4.out.mono (by omega))).setCell (Nat.le_refl _) _
  ·rw [setCell_size]
   have h1 := HB4.out.size
   have h2 := HS.out
   omega
 case done =>
  rintro Df ys W hDf hys hC hK
  obtain ⟨es, hes⟩ : ∃ es, es = ys.map (·.1) := ⟨_, rfl⟩
  rw [← hes] at hC
  rw [← hes] at hys
  clear hes
  have HES := hid hys
  have HL := hid (show 0 < es.length ∧ es.length ≤ 1000 by rw [hys]; exact ⟨HFW.out.2, HFW.out.1⟩)
  clear hys
  obtain ⟨ao, c, hbx, hown⟩ := hC.box
  have HB := hid hC.below
  have HS := hid hC.size
  obtain ⟨g, rfl⟩ : ∃ g, ao = some ⟨g, 0, none⟩ := by
   rcases hown.2 with ⟨_, h0⟩ | ⟨g, cap, cur, hv, _⟩
   ·have := HL.out; omega
   ·cases hv; exact ⟨_, rfl⟩
  have hgb := (own_lt' hown g rfl).1
  have hcell : W.cell? ⟨b, 0, none⟩ = some (.slice (some ⟨g, 0, none⟩) es.length c) := cell_of_row W b 0 _ _ _ hbx
  have HSO := hid (Sort_any (b + 1) g c es W hown HL.out.1 (by have := HL.out; omega))
  have HKD := hid hK
  have hgc : ∃ cur, W.heap[g]? = some (.cells cur 9 (0, 0)) := by
   rcases hown.2 with ⟨hv, _⟩ | ⟨g', cap, cur, hv, _, hg, _⟩
   ·cases hv
   ·cases hv
    exact ⟨cur, hg⟩
  have HNG := hid (show Df ≠ g from fun e => by
   obtain ⟨cur, hg⟩ := hgc
   rw [← e, hK] at hg
   cases hg)
  have HBX := hid hbx
  have HGB := hid hgb
  clear hC hown hbx hK hgb hgc
  gi_wp2_with fail
  refine ⟨trivial, callsIn_wide.2 (HSO.out.mono ?_)⟩
  rintro e w5 ⟨rfl, hst, hgr⟩
  have HST5 := hid hst
  have hcell5 : w5.cell? ⟨b, 0, none⟩ = some (.slice (some ⟨g, 0, none⟩) es.length c) := cell_of_row w5 b 0 _ _ _ ((hgr.block b (lt_of_block HBX.out) (fun e => by injection e with e; have := HGB.out; omega)).trans HBX.out)
  have HK5 := hid ((hgr.block Df (lt_of_block HKD.out) (fun e => HNG.out (Option.some.inj e))).trans HKD.out)
  have HB5 := hid (HB.out.grown hgr (by have := HS.out; omega) (fun k e => by injection e with e; have := HGB.out; omega))
  clear hst hgr hcell HSO
  have hle : (es.foldl insR []).length = es.length := by rw [fold_len]; simp
  have HLE := hid hle
  clear hle
  gi_wp2_with fail
  refine ⟨by simp, .inl ⟨_, _, rfl, run_takeDeferred HK5.out, ?_⟩⟩
  refine ⟨_, results_tmp2 rfl _ _ _, ?_, .inr ⟨HR.out, some ⟨g, 0, none⟩, c, es.foldl insR [], ?_, HST5.out.put HK5.out rfl _, by rw [HES.out], by rw [HLE.out]; exact HL.out.2⟩⟩
  ·exact B1.out.trans ((HB5.out.trans (belowK_b (w := w3) (by have := HS2.out; omega) w5 Df _ _ hDf HK5.out rfl rfl)).mono HW1.out)
  ·rw [HLE.out]
   rfl
 case stop =>
  rintro Df c pre W _ _ h _
  exact h.elim
theorem smallX_fit' {x : XEl} (h : SmallX x) : DiaFit x.d := by
 refine ⟨fun d hd => ?_, ?_, ?_⟩
 ·obtain ⟨e, he, rfl⟩ := List.mem_map.1 hd
  exact (h.each e he).fit
 ·have := h.lt
  show x.types.length ≤ _
  omega
 ·have := h.lo
  show (x.ops.map (·.d)).length ≤ _
  rw [List.length_map]
  omega
theorem fitsX_of {xs ys : List XEl} (hs : ∀ x ∈ xs, SmallX x) (h : ys.map XEl.d = xs.map XEl.d) : ∀ y ∈ ys, DiaFit y.d := fun y hy => by
 obtain ⟨z, hz, e⟩ := List.mem_map.1 (show y.d ∈ xs.map XEl.d from h ▸ List.mem_map.2 ⟨y, hy, rfl⟩)
 rw [← e]
 exact smallX_fit' (hs z hz)
theorem namesX_of {xs ys : List XEl} (hs : ∀ x ∈ xs, NameSmall x.d) (h : ys.map XEl.d = xs.map XEl.d) : ∀ y ∈ ys, NameSmall y.d := fun y hy => by
 obtain ⟨z, hz, e⟩ := List.mem_map.1 (show y.d ∈ xs.map XEl.d from h ▸ List.mem_map.2 ⟨y, hy, rfl⟩)
 rw [← e]
 exact hs z hz
set_option maxHeartbeats 16000000 in
set_option maxRecDepth 100000 in
theorem DialectChecks_any (ao : Option Addr) (xs : List XEl) (c0 : Nat) (hs : ∀ x ∈ xs, SmallX x) (hn : ∀ x ∈ xs, NameSmall x.d) (hl : xs.length ≤ 1048576) (w : World) (hd : DiasAt w ao xs) (hE : Env w) :
  Calls Tryz.prog 3 #[.slice ao xs.length c0] w fun e w' => e = .returned (.bool true) ∧ Below w.heap.size w w' := by
 have HLP := hid (fun (X : World) (h : Below w.heap.size w X) => LProg_any ao xs c0 hs hl X (hd.below h))
 have HRR := hid (fun (X : World) (h : Below w.heap.size w X) => RRight_any ao xs c0 hs hl X (hd.below h))
 have HRN := hid (fun (X : World) (h : Below w.heap.size w X) (hr : rightXs (xs.map XEl.d) = true) => RNames_any ao xs c0 hl hn (Nat.le_trans (names_few' hr) (by decide)) X (hd.below h))
 have HFT := hid (fun (ys : List XEl) (h : ys.map XEl.d = xs.map XEl.d) => And.intro (fitsX_of hs h) (namesX_of hn h))
 have HL := hid hl
 have HE := hid hE
 clear hs hn hl hd hE
 go_enter Tryz.func3, Tryz.ntmps3
 go_wp2_with fail
 refine (HLP.out w (Below.refl _ _)).mono ?_
 rintro e w1 ⟨hb, yo, ys, yc, rfl, hyd, hyo, -⟩
 have B1 := hid hb
 have HCK := hid (Check_any yo ys yc (by have := congrArg List.length hyd; rw [List.length_map, List.length_map] at this; have := HL.out; omega) (HFT.out ys hyd).1 w1 hyo (HE.out.below hb))
 rw [hyd] at HCK
 clear hb hyd hyo
 go_wp2_with fail
 refine HCK.out.mono ?_
 rintro e w2 ⟨rfl, hb⟩
 have B2 := hid (B1.out.trans (hb.mono B1.out.size))
 clear hb HCK
 go_wp2_with fail
 refine (HLP.out w2 B2.out).mono ?_
 rintro e w3 ⟨hb, zo, zs, zc, rfl, hyd, hyo, -⟩
 have B3 := hid (B2.out.trans (hb.mono B2.out.size))
 have HNM := hid (Names_any zo zs zc (by have := congrArg List.length hyd; rw [List.length_map, List.length_map] at this; have := HL.out; omega) (HFT.out zs hyd).1 (HFT.out zs hyd).2 w3 hyo (HE.out.below B3.out))
 rw [hyd] at HNM
 clear hb hyd hyo
 go_wp2_with fail
 refine HNM.out.mono ?_
 rintro e w4 ⟨hb, hp⟩
 have B4 := hid (B3.out.trans (hb.mono B3.out.size))
 have HB34 := hid hb
 clear hb HNM
 rcases hp with ⟨hr, rfl⟩ | ⟨hr, no, nc, outs, rfl, hns, hso, hln⟩
 ·have HX := hid (errX_no hr)
  go_wp2_with fail
  refine (HRR.out w4 B4.out).mono ?_
  rintro e w5 ⟨rfl, hb⟩
  have B5 := hid (B4.out.trans (hb.mono B4.out.size))
  rw [hr, HX.out]
  clear hb hr
  go_wp2_with fail
  refine (awake5_any _ (HE.out.below B5.out)).mono ?_
  rintro e w6 ⟨rfl, hb⟩
  have B6 := hid (B5.out.trans (hb.mono B5.out.size))
  clear hb
  go_wp2_with fail
  go_ret
  exact ⟨rfl, B6.out⟩
 ·have HX := hid (errX_yes hr)
  have HNS := hid hns
  have HSO := hid hso
  have HLN := hid hln
  clear hns hso hln
  have HR := hid hr
  clear hr
  go_wp2_with fail
  refine (HRR.out w4 B4.out).mono ?_
  rintro e w5 ⟨rfl, hb⟩
  have B5 := hid (B4.out.trans (hb.mono B4.out.size))
  have HNS5 := hid (HNS.out.below hb)
  rw [HR.out, HX.out]
  clear hb
  go_wp2_with fail
  refine (HRN.out w5 B5.out HR.out).mono ?_
  rintro e w6 ⟨hb, vo, us, c, rfl, hus, hst⟩
  have B6 := hid (B5.out.trans (hb.mono B5.out.size))
  have HNS6 := hid (HNS5.out.below hb)
  obtain rfl : outs = us := by rw [HSO.out, hus, fold_same]
  have HST := hid hst
  clear hb hus hst
  go_wp2_with fail
  refine (same_strs no vo outs nc c (by have := HLN.out; omega) w6 HNS6.out HST.out).mono ?_
  rintro e w7 ⟨rfl, hb⟩
  have B7 := hid (B6.out.trans (hb.mono B6.out.size))
  clear hb
  go_wp2_with fail
  refine (awake5_any _ (HE.out.below B7.out)).mono ?_
  rintro e w8 ⟨rfl, hb⟩
  have B8 := hid (B7.out.trans (hb.mono B7.out.size))
  clear hb
  go_wp2_with fail
  go_ret
  exact ⟨rfl, B8.out⟩
end Go.Proofs.YtgimdkgjfenafaaGreatDoor
