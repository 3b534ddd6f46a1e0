import Derived.Test.YtgimdkgjfenafaaGreatDoorCG12
import Derived.Test.YtgimdkgjfenafaaGreatDoorCG03
import Derived.RangeFuncNested
import Derived.RangeFuncBound
import Derived.RangeFuncCalls
import Derived.RangeFuncLeaves
import Derived.RangeFuncBox
import Derived.Shelf.Abstract
import Derived.Shelf.RegionOpen
import Derived.OwnWalkIn
import Derived.TacticsInMore
import Derived.LoopNIn
import Derived.LoopIn
import Derived.Test.YtgimdkgjfenafaaGreatDoorCG05
import Derived.Test.YtgimdkgjfenafaaGreatDoorCG07
namespace Go.Proofs.YtgimdkgjfenafaaGreatDoor
open Go.RowKit Go.Shelf
attribute [local go_sem] Oper.semAt_some
theorem nDigits_le {u : Nat} (h : u < 10000) : Lib.nDigits u ≤ 4 := by
 by_cases h1 : u < 10
 ·rw [Lib.nDigits_small h1]; omega
 rw [Lib.nDigits_big h1]
 by_cases h2 : u / 10 < 10
 ·rw [Lib.nDigits_small h2]; omega
 rw [Lib.nDigits_big h2]
 by_cases h3 : u / 10 / 10 < 10
 ·rw [Lib.nDigits_small h3]; omega
 rw [Lib.nDigits_big h3, Lib.nDigits_small (by omega)]
 omega
theorem itoa_len {x : Int} (h : 0 ≤ x ∧ x ≤ 1000) : (Lib.itoa x).length ≤ 4 := by
 rw [Lib.itoa, if_neg (by omega), Lib.decDigits_length]
 exact nDigits_le (by omega)
theorem grow_keeps (w : World) (k : Nat) (os : Array Obj) : Below w.heap.size w (Go.Sort.grow (w.drewN k) os) ∧ KeepsOthers w (Go.Sort.grow (w.drewN k) os) := by
 have h : ∀ i, i < w.heap.size → (Go.Sort.grow (w.drewN k) os).heap[i]? = w.heap[i]? := fun i hi => by
  show (w.heap ++ os)[i]? = _
  rw [Array.getElem?_append, if_pos hi]
 have hs : w.heap.size ≤ (Go.Sort.grow (w.drewN k) os).heap.size := by
  show _ ≤ (w.heap ++ os).size
  simp
 exact ⟨⟨rfl, rfl, rfl, hs, h⟩, ⟨hs, fun i o ho _ => (h i (lt_of_block ho)).trans ho⟩⟩
theorem itoa_any (x : Int) (hx : 0 ≤ x ∧ x ≤ 1000) (w : World) (hE : Env w) :
  Calls Tryz.prog 161 #[.int .i64 x] w fun e w' => e = .returned (.string ⟨(Lib.itoa x).toArray⟩) ∧ Below w.heap.size w w' ∧ KeepsOthers w w' :=
 (Tryz.strconv_Itoa x (by omega) (by omega) w hE.pow).mono fun e w' ⟨he, k, os, hw⟩ => ⟨he, by subst hw; exact grow_keeps w k os⟩
abbrev Ext := { x : Int // 0 ≤ x ∧ x ≤ 1000 }
def exts (n : Nat) (x0 x1 x2 : Ext) : List Ext := [x0, x1, x2].take n
set_option maxRecDepth 100000 in
set_option maxHeartbeats 2000000 in
theorem each1_in (F : Fence) (n : Nat) (hf : F.fn 176) (hro : F.round = none) (hn : 1 ≤ n) (l Bs : Nat) (k b : Int) (r : Nat) (hr : r ≤ 3) (x0 x1 x2 : Ext) (el : ByteArray) (J Jx : List Ext → World → Prop)
  (hY : ∀ pre (x : Ext) W, J pre W → pre.length < r → YieldAt F (n - 1) Tryz.prog l #[.int .i64 x.1] W fun e W' =>
   (e = .returned (.bool true) ∧ J (pre ++ [x]) W' ∧ KeepD W W') ∨ (e = .returned (.bool false) ∧ Jx (pre ++ [x]) W'))
  (W : World) (hb : W.heap[Bs]? = some (.cells #[.int .i64 k, .int .i64 b, .int .i64 r, .int .i64 x0.1, .int .i64 x1.1, .int .i64 x2.1, .string el] 205 (0, 0))) (h0 : J [] W) :
  CallsIn F n Tryz.prog 176 #[.func (.yield l) #[] #[], .pointer (some ⟨Bs, 0, none⟩)] W fun e W' => (∃ v, e = .returned v) ∧
   ((∃ ys, ys = exts r x0 x1 x2 ∧ J ys W') ∨ (∃ pre, pre <+: exts r x0 x1 x2 ∧ Jx pre W')) := by
 have HB := Lib.hid hb
 obtain ⟨c0, c1, c2, c3, c4, c5, c6, _⟩ := cells7 hb
 clear hb c0 c1 c3 c4 c5 c6
 have hsl := slice_ext r hr
 refine callsIn_of_wp Tryz.func176 rfl hf ?_ hro
 simp only [Tryz.ntmps176, List.size_toArray, List.length_cons, List.length_nil, Nat.reduceAdd, Nat.reduceSub, Array.replicate_succ, Array.replicate_zero, List.push_toArray, List.append_toArray, List.nil_append, List.cons_append]
 gi_wp2
 gi_loopw [10] (fun i wr => ∃ m : Nat, m ≤ r ∧ i = .int .i64 m ∧ J (exts m x0 x1 x2) wr ∧ KeepD W wr) (fun i _ => r - (intOf i).toNat)
 case atStart => exact ⟨0, Nat.zero_le _, rfl, h0, KeepD.refl _⟩
 case round =>
  obtain ⟨m, hm, rfl, hJ, hK⟩ := hrel
  obtain ⟨d0, d1, d2, d3, d4, d5, d6, _⟩ := cells7 (hK _ _ _ HB.out)
  clear d0 d1 d2 d6
  by_cases hlt : m < r
  ·rcases (show m = 0 ∨ m = 1 ∨ m = 2 by omega) with rfl | rfl | rfl
   ·obtain ⟨fn, tmps, assign, body, hy, hR⟩ := hY _ x0 wr hJ (by simp [exts]; omega)
    gi_wp2
    refine hR.mono ?_
    rintro e W3 (⟨rfl, hJ3, hk3⟩ | ⟨rfl, hJx3⟩)
    ·gi_wp2
     go_roundw
     case rel => exact ⟨1, by omega, by simp, hJ3, hK.trans hk3⟩
     case measure => simp [intOf]; omega
    ·gi_wp2
     refine bodyPost_ret (results_none rfl _ _ _) rfl ?_
     exact ⟨⟨_, rfl⟩, .inr ⟨_, by rcases (show r = 1 ∨ r = 2 ∨ r = 3 by omega) with rfl | rfl | rfl <;> simp [exts], hJx3⟩⟩
   ·obtain ⟨fn, tmps, assign, body, hy, hR⟩ := hY _ x1 wr hJ (by simp [exts]; omega)
    gi_wp2
    refine hR.mono ?_
    rintro e W3 (⟨rfl, hJ3, hk3⟩ | ⟨rfl, hJx3⟩)
    ·gi_wp2
     go_roundw
     case rel => exact ⟨2, by omega, by simp, hJ3, hK.trans hk3⟩
     case measure => simp [intOf]; omega
    ·gi_wp2
     refine bodyPost_ret (results_none rfl _ _ _) rfl ?_
     exact ⟨⟨_, rfl⟩, .inr ⟨_, by rcases (show r = 2 ∨ r = 3 by omega) with rfl | rfl <;> simp [exts], hJx3⟩⟩
   ·obtain ⟨fn, tmps, assign, body, hy, hR⟩ := hY _ x2 wr hJ (by simp [exts]; omega)
    gi_wp2
    refine hR.mono ?_
    rintro e W3 (⟨rfl, hJ3, hk3⟩ | ⟨rfl, hJx3⟩)
    ·gi_wp2
     go_roundw
     case rel => exact ⟨3, by omega, by simp, hJ3, hK.trans hk3⟩
     case measure => simp [intOf]; omega
    ·gi_wp2
     refine bodyPost_ret (results_none rfl _ _ _) rfl ?_
     exact ⟨⟨_, rfl⟩, .inr ⟨_, by rcases (show r = 3 by omega) with rfl; simp [exts], hJx3⟩⟩
  ·obtain rfl : m = r := by omega
   gi_wp2
   go_end0
   exact ⟨⟨_, rfl⟩, .inl ⟨_, rfl, hJ⟩⟩
theorem each_stops (F : Fence) (n : Nat) (hf : F.fn 176) (hro : F.round = none) (hn : 1 ≤ n) (Bs : Nat) (k b : Int) (r : Nat) (hr : r ≤ 3) (x0 x1 x2 : Ext) (el : ByteArray) (w : World)
  (hb : w.heap[Bs]? = some (.cells #[.int .i64 k, .int .i64 b, .int .i64 r, .int .i64 x0.1, .int .i64 x1.1, .int .i64 x2.1, .string el] 205 (0, 0))) :
  SeqStopsK F n Tryz.prog 176 #[.pointer (some ⟨Bs, 0, none⟩)] (fun x : Ext => #[Value.int .i64 x.1]) KeepD (fun ys => ys = exts r x0 x1 x2) (fun pre => pre <+: exts r x0 x1 x2) r w := fun l J Jx W hW _ _ hY h0 =>
 each1_in F n hf hro hn l Bs k b r hr x0 x1 x2 el J Jx hY W ((hW.block Bs (lt_of_block hb)).trans hb) h0
set_option maxHeartbeats 400000 in
theorem each_any (k b r e0 e1 e2 : Int) (el : ByteArray) (w : World) :
  Calls Tryz.prog 160 #[.agg #[.int .i64 k, .int .i64 b, .int .i64 r, .int .i64 e0, .int .i64 e1, .int .i64 e2, .string el]] w
   fun e w' => e = .returned (.func (.func 176) #[] #[.pointer (some ⟨w.heap.size, 0, none⟩)]) ∧ w.alloc (.cells #[.int .i64 k, .int .i64 b, .int .i64 r, .int .i64 e0, .int .i64 e1, .int .i64 e2, .string el] 205) = w' := by
 go_enter Tryz.func160, Tryz.ntmps160
 go_wp2
 go_ret
 exact ⟨rfl, rfl⟩
end Go.Proofs.YtgimdkgjfenafaaGreatDoor
namespace Go.Proofs.YtgimdkgjfenafaaGreatDoor
open Go.RowKit Go.Shelf
attribute [local go_sem] Oper.semAt_some
def extBytes (pre : List Ext) : List UInt8 := pre.flatMap fun x => Lib.itoa x.1 ++ [120]
theorem extBytes_snoc (pre : List Ext) (x : Ext) : extBytes (pre ++ [x]) = extBytes pre ++ (Lib.itoa x.1 ++ [120]) := by simp [extBytes]
theorem extBytes_len : ∀ pre : List Ext, (extBytes pre).length ≤ 5 * pre.length
 | [] => by simp [extBytes]
 | x :: pre => by
  have := extBytes_len pre
  have := itoa_len x.2
  simp only [extBytes, List.flatMap_cons, List.length_append, List.length_cons, List.length_nil] at *
  omega
def textHead (k : Int) : List UInt8 := if k = 2 then [109, 101, 109, 60] else [97, 114, 114, 60]
def textSpec (k : Int) (r : Nat) (x0 x1 x2 : Ext) (el : List UInt8) : List UInt8 := textHead k ++ extBytes (exts r x0 x1 x2) ++ el ++ [62]
structure Txt (w : World) (D : Array Value) (l : List UInt8) (W : World) : Prop where
 bld : Lib.IsBuilder 235 5 (w.heap.size + 1) (w.heap.size + 1) (Lib.byteCells l) W
 dsc : W.heap[w.heap.size]? = some (.cells D 205 (0, 0))
 below : Below w.heap.size w W
 lt : w.heap.size + 1 < W.heap.size
theorem Txt.str {w W : World} {D : Array Value} {l : List UInt8} (h : Txt w D l W) (s : ByteArray) (hs : l.length + s.size ≤ 140737488355328) :
  Calls Tryz.prog 158 #[.pointer (some ⟨w.heap.size + 1, 0, none⟩), .string s] W fun e W' => e = .returned (.tuple #[.int .i64 s.size, .nilIface]) ∧ Txt w D (l ++ s.data.toList) W' ∧ Below (w.heap.size + 1) W W' ∧ KeepsOthers W W' ∧ KeepD W W' :=
 (writeString_any _ _ _ s W h.bld (by rw [Lib.byteCells_length]; exact hs) (by have := h.lt; omega)).mono fun e W' ⟨he, hb, hbl, hko, hkd⟩ =>
  ⟨he, ⟨.inr (by rw [Lib.byteCells_append]; exact hb), (hbl.block _ (by omega)).trans h.dsc, h.below.trans (hbl.mono (by omega)), by have := h.lt; have := hbl.size; omega⟩, hbl, hko, hkd⟩
theorem Txt.byte {w W : World} {D : Array Value} {l : List UInt8} (h : Txt w D l W) (c : UInt8) (n : Int) (hc : n = (c.toNat : Int)) (hs : l.length + 1 ≤ 140737488355328) :
  Calls Tryz.prog 159 #[.pointer (some ⟨w.heap.size + 1, 0, none⟩), .int .u8 n] W fun e W' => e = .returned .nilIface ∧ Txt w D (l ++ [c]) W' ∧ Below (w.heap.size + 1) W W' ∧ KeepsOthers W W' ∧ KeepD W W' :=
 (writeByte_any _ _ _ n W h.bld (by rw [Lib.byteCells_length]; exact hs) (by have := h.lt; omega)).mono fun e W' ⟨he, hb, hbl, hko, hkd⟩ =>
  ⟨he, ⟨.inr (by rw [Lib.byteCells_append]; subst hc; exact hb), (hbl.block _ (by omega)).trans h.dsc, h.below.trans (hbl.mono (by omega)), by have := h.lt; have := hbl.size; omega⟩, hbl, hko, hkd⟩
theorem Txt.other {w W W' : World} {D : Array Value} {l : List UInt8} (h : Txt w D l W) (hb : Below W.heap.size W W') : Txt w D l W' := by
 have hl := h.lt
 have hown : ∀ {p : Value}, Lib.BuilderAt 235 5 (w.heap.size + 1) (w.heap.size + 1) p (Lib.byteCells l) W → Lib.BuilderAt 235 5 (w.heap.size + 1) (w.heap.size + 1) p (Lib.byteCells l) W' := by
  rintro p ⟨hB, v, hv, ho, hne⟩
  refine ⟨hB, v, (hb.block _ hl).trans hv, ?_, hne⟩
  refine ho.kept (row := none) ⟨hb.os, hb.tape, hb.output, hb.size, fun k hk _ => hb.block k hk⟩ ?_
  cases hv' : v.ownBlock <;> simp
 exact ⟨h.bld.elim (fun h => .inl (hown h)) (fun h => .inr (hown h)), (hb.block _ (by omega)).trans h.dsc, h.below.trans (hb.mono h.below.size), by have := hb.size; omega⟩
theorem txt_own (w : World) (D : Array Value) (f : List Ext → List UInt8) (B : Nat) (hB : w.heap.size ≤ B) : OwnFrom B (fun (pre : List Ext) W => Txt w D (f pre) W) := by
 intro s X Y row h hg hr
 have ncell : ∀ {k : Nat} {cs : Array Value} {t : TypeId} {fr : Nat × Nat}, X.heap[k]? = some (.cells cs t fr) → some k ≠ row := by
  intro k cs t fr hk e
  obtain ⟨_, o, ho, hc⟩ := hr k e.symm
  rw [hk] at ho
  cases ho
  cases hc
 have hown : ∀ {p : Value}, Lib.BuilderAt 235 5 (w.heap.size + 1) (w.heap.size + 1) p (Lib.byteCells (f s)) X → Lib.BuilderAt 235 5 (w.heap.size + 1) (w.heap.size + 1) p (Lib.byteCells (f s)) Y := by
  rintro p ⟨hB, v, hv, ho, hne⟩
  refine ⟨hB, v, (hg.block _ h.lt (ncell hv)).trans hv, ho.kept hg ?_, hne⟩
  rcases ho.2 with ⟨rfl, _⟩ | ⟨g, cap, cur, rfl, _, hh, _⟩
  ·exact .inl rfl
  ·exact .inr (ncell hh)
 exact ⟨h.bld.elim (fun h => .inl (hown h)) (fun h => .inr (hown h)), (hg.block _ (by have := h.lt; omega) (ncell h.dsc)).trans h.dsc, h.below.grown hg h.below.size (fun k e => Nat.le_trans hB (hr k e).1), by have := h.lt; have := hg.size; omega⟩
theorem Txt.out {w W : World} {D : Array Value} {l : List UInt8} (h : Txt w D l W) :
  Calls Tryz.prog 162 #[.pointer (some ⟨w.heap.size + 1, 0, none⟩)] W fun e W' => e = .returned (.string ⟨l.toArray⟩) ∧ Below (w.heap.size + 1) W W' ∧ ∀ (k : Nat) (o : Obj), W.heap[k]? = some o → o.isCells = false → W'.heap[k]? = some o :=
 (Tryz.Builder_String_any_k _ _ l W (Lib.IsBuilderF.of h.bld) (by have := h.lt; omega)).mono fun e W' ⟨he, _, hb, hk⟩ =>
  ⟨he, hb, fun k o ho hc => hk k o ho (fun e => by
   obtain ⟨p, hp⟩ : ∃ p v, W.heap[w.heap.size + 1]? = some (.cells #[p, v] 235 (0, 0)) := by
    rcases h.bld with ⟨_, v, hv, _⟩ | ⟨_, v, hv, _⟩
    ·exact ⟨_, v, hv⟩
    ·exact ⟨_, v, hv⟩
   obtain ⟨v, hv⟩ := hp
   obtain rfl : k = w.heap.size + 1 := Option.some.inj e
   rw [ho] at hv
   cases hv
   cases hc) (fun c fz e => by subst e; cases hc)⟩
theorem str_end {x y : List UInt8} {w W' : World} (h : x = y) (hb : Below w.heap.size w W') : Ending.returned (.string ⟨x.toArray⟩) = .returned (.string ⟨y.toArray⟩) ∧ Below w.heap.size w W' := ⟨by rw [h], hb⟩
set_option maxRecDepth 100000 in
set_option maxHeartbeats 2000000 in
theorem text_any (k b : Int) (hk : k = 2 ∨ k = 3) (r : Nat) (hr : r ≤ 3) (x0 x1 x2 : Ext) (el : ByteArray) (hel : el.size ≤ 1000000) (w : World) (hE : Env w) :
  Calls Tryz.prog 139 #[.agg #[.int .i64 k, .int .i64 b, .int .i64 r, .int .i64 x0.1, .int .i64 x1.1, .int .i64 x2.1, .string el]] w
   fun e w' => e = .returned (.string ⟨(textSpec k r x0 x1 x2 el.data.toList).toArray⟩) ∧ Below w.heap.size w w' := by
 refine (callsIn_wide (n := 3)).1 ?_
 refine callsIn_of_wp_marks Tryz.func139 rfl trivial ?_ rfl
 simp only [Tryz.ntmps139, List.size_toArray, List.length_cons, List.length_nil, Nat.reduceAdd, Nat.reduceSub, Array.replicate_succ, Array.replicate_zero, List.push_toArray, List.append_toArray, List.nil_append, List.cons_append]
 have T0 : ∀ D : Array Value, Txt w D [] ((w.alloc (.cells D 205)).alloc (.cells #[.pointer none, .slice none 0 0] 235)) := fun D =>
  ⟨.inl ⟨Nat.le_refl _, .slice none 0 0, heap_alloc2_new _ _ _, World.ownsRow_nil _ _ _ _, by simp [Value.ownBlock]⟩, heap_alloc2_old _ _ _, ((Below.refl _ _).alloc (Nat.le_refl _) _).alloc (by simp) _, by simp⟩
 have HT0 := Lib.hid T0
 have hE' := Lib.hid hE
 clear T0 hE
 rcases hk with rfl | rfl
 ·gi_wp2_with fail
  refine ⟨trivial, callsIn_wide.2 (((HT0.out _).str _ (by decide)).mono ?_)⟩
  rintro e w1 ⟨rfl, T1, _, _, _⟩
  gi_wp2_with fail
  refine ⟨trivial, callsIn_wide.2 ((T1.byte 60 60 rfl (by decide)).mono ?_)⟩
  rintro e w2 ⟨rfl, T2, _, _, _⟩
  clear T1
  obtain ⟨c0, c1, c2, c3, c4, c5, c6, _⟩ := cells7 T2.dsc
  gi_wp2_with fail
  refine ⟨trivial, callsIn_wide.2 ((each_any _ _ _ _ _ _ _ _).mono ?_)⟩
  rintro e w3 ⟨rfl, hw3⟩
  have hB3 := Lib.hid (show w3.heap[w2.heap.size]? = some (.cells #[.int .i64 2, .int .i64 b, .int .i64 r, .int .i64 x0.1, .int .i64 x1.1, .int .i64 x2.1, .string el] 205 (0, 0)) by rw [← hw3]; exact heap_alloc_new _ _)
  have T3 := T2.other (show Below w2.heap.size w2 w3 by rw [← hw3]; exact (Below.refl _ _).alloc (Nat.le_refl _) _)
  have hs3 := Lib.hid (show w2.heap.size < w3.heap.size by rw [← hw3]; simp)
  clear hw3 c0 c1 c2 c3 c4 c5 c6
  gi_wp2_with fail
  refine wpIn_rangeFunc_ownF rfl (by omega) (gf := 176) (lb := #[.pointer (some ⟨w2.heap.size, 0, none⟩)]) rfl trivial (enters_of Tryz.func176 (by kernel_rfl) rfl)
   (each_stops Fence.wide _ trivial rfl (by omega) w2.heap.size 2 b r hr x0 x1 x2 el w3 hB3.out) (fun h h' => h.trans h') (fun W l o o' _ hl ho _ => KeepD.putObj W l o o' hl ho) (Below.refl _ _) (fun _ => rfl)
   (fun pre W => Txt w #[.int .i64 2, .int .i64 b, .int .i64 r, .int .i64 x0.1, .int .i64 x1.1, .int .i64 x2.1, .string el] ([109, 101, 109, 60] ++ extBytes pre) W) (fun _ _ _ => False) (txt_own w _ (fun pre => [109, 101, 109, 60] ++ extBytes pre) _ T3.below.size) (fun _ _ _ _ _ hs _ _ => hs) T3
   (fun x => { tmps := #[.agg #[.int .i64 2, .int .i64 b, .int .i64 r, .int .i64 x0.1, .int .i64 x1.1, .int .i64 x2.1, .string el], .pointer (some ⟨w.heap.size, 0, none⟩), .string ⟨#[]⟩, .pointer (some ⟨w.heap.size + 1, 0, none⟩), .int .i64 x.1, .pointer (some ⟨w.heap.size, 0, none⟩), .int .i64 2, .bool true, Value.tuple #[.int .i64 3, .nilIface], undef, .nilIface, .agg #[.int .i64 2, .int .i64 b, .int .i64 r, .int .i64 x0.1, .int .i64 x1.1, .int .i64 x2.1, .string el], .func (.func 176) #[] #[.pointer (some ⟨w2.heap.size, 0, none⟩)], .int .i64 x.1, undef, undef, undef, undef, undef, undef, undef, undef, undef], defers := [] }) ?assign ?body ?done ?stop
  case assign =>
   intro l x W K hK
   gi_wp2
   exact hK
  case body =>
   rintro l pre x W hT hlt
   have hlen := Lib.hid (extBytes_len pre)
   have hil := Lib.hid (show (⟨(Lib.itoa x.1).toArray⟩ : ByteArray).size ≤ 4 from (by have := itoa_len x.2; simpa [ByteArray.size] using this))
   have hil2 := Lib.hid (itoa_len x.2)
   gi_wp2_with fail
   refine ⟨trivial, (CallsIn.inRound l (callsIn_wide.2 (itoa_any x.1 x.2 W (hE'.out.below hT.below)))).mono ?_⟩
   rintro e w4 ⟨rfl, hb4, hko4⟩
   have T4 := hT.other hb4
   have K4 := Lib.hid (And.intro hko4 (KeepD.below hb4 (Nat.le_refl _)))
   clear hb4 hko4
   gi_wp2_with fail
   refine ⟨trivial, (CallsIn.inRound l (callsIn_wide.2 (T4.str ⟨(Lib.itoa x.1).toArray⟩ (by have := hlen.out; have := hil.out; simp at *; omega)))).mono ?_⟩
   rintro e w5 ⟨rfl, T5, _, hko5, hkd5⟩
   have K5 := Lib.hid (And.intro (K4.out.1.trans hko5) (K4.out.2.trans hkd5))
   clear hko5 hkd5 T4
   gi_wp2_with fail
   refine ⟨trivial, (CallsIn.inRound l (callsIn_wide.2 (T5.byte 120 120 rfl (by have := hlen.out; have := hil2.out; simp at *; omega)))).mono ?_⟩
   rintro e w6 ⟨rfl, T6, _, hko6, hkd6⟩
   have K6 := Lib.hid (And.intro (K5.out.1.trans hko6) (K5.out.2.trans hkd6))
   clear hko6 hkd6 T5
   gi_wp2_with fail
   exact ⟨K6.out.1, K6.out.2, by show Txt w _ (_ ++ extBytes (pre ++ [x])) w6; rw [extBytes_snoc]; simpa using T6⟩
  case done =>
   rintro Df ys W hD rfl hT hK
   have HK := Lib.hid hK
   clear hK
   obtain ⟨c0, c1, c2, c3, c4, c5, c6, _⟩ := cells7 hT.dsc
   have hlen := Lib.hid (extBytes_len (exts r x0 x1 x2))
   have hex := Lib.hid (show (exts r x0 x1 x2).length ≤ 3 by simp [exts]; omega)
   gi_wp2_with fail
   refine ⟨trivial, callsIn_wide.2 ((hT.str el (by have := hlen.out; have := hex.out; simp at *; omega)).mono ?_)⟩
   rintro e w7 ⟨rfl, T7, _, hko7, _⟩
   have HK7 := Lib.hid (hko7.same Df _ HK.out rfl)
   clear hko7
   gi_wp2_with fail
   refine ⟨trivial, callsIn_wide.2 ((T7.byte 62 62 rfl (by have := hlen.out; have := hex.out; simp at *; omega)).mono ?_)⟩
   rintro e w8 ⟨rfl, T8, _, hko8, _⟩
   have HK8 := Lib.hid (hko8.same Df _ HK7.out rfl)
   clear hko8
   gi_wp2_with fail
   refine ⟨trivial, callsIn_wide.2 (T8.out.mono ?_)⟩
   rintro e w9 ⟨rfl, hb9, hk9⟩
   have HK9 := Lib.hid (hk9 Df _ HK8.out rfl)
   have HB9 := Lib.hid (T8.below.trans (hb9.mono (by omega)))
   clear hb9 hk9
   gi_wp2_with fail
   refine ⟨by simp, .inl ⟨_, _, rfl, run_takeDeferred HK9.out, ?_⟩⟩
   refine ⟨_, results_tmp rfl _ _ _, str_end (x := 109 :: 101 :: 109 :: 60 :: (extBytes (exts r x0 x1 x2) ++ (el.data.toList ++ [62]))) (y := textSpec 2 r x0 x1 x2 el.data.toList) (by simp [textSpec, textHead]) (HB9.out.trans (belowK_b (w := w) (Nat.le_refl _) w9 Df _ _ (by have := T3.below.size; omega) HK9.out rfl rfl))⟩
  case stop =>
   rintro Df c pre W _ _ h _
   exact h.elim
 ·gi_wp2_with fail
  refine ⟨trivial, callsIn_wide.2 (((HT0.out _).str _ (by decide)).mono ?_)⟩
  rintro e w1 ⟨rfl, T1, _, _, _⟩
  gi_wp2_with fail
  refine ⟨trivial, callsIn_wide.2 ((T1.byte 60 60 rfl (by decide)).mono ?_)⟩
  rintro e w2 ⟨rfl, T2, _, _, _⟩
  clear T1
  obtain ⟨c0, c1, c2, c3, c4, c5, c6, _⟩ := cells7 T2.dsc
  gi_wp2_with fail
  refine ⟨trivial, callsIn_wide.2 ((each_any _ _ _ _ _ _ _ _).mono ?_)⟩
  rintro e w3 ⟨rfl, hw3⟩
  have hB3 := Lib.hid (show w3.heap[w2.heap.size]? = some (.cells #[.int .i64 3, .int .i64 b, .int .i64 r, .int .i64 x0.1, .int .i64 x1.1, .int .i64 x2.1, .string el] 205 (0, 0)) by rw [← hw3]; exact heap_alloc_new _ _)
  have T3 := T2.other (show Below w2.heap.size w2 w3 by rw [← hw3]; exact (Below.refl _ _).alloc (Nat.le_refl _) _)
  have hs3 := Lib.hid (show w2.heap.size < w3.heap.size by rw [← hw3]; simp)
  clear hw3 c0 c1 c2 c3 c4 c5 c6
  gi_wp2_with fail
  refine wpIn_rangeFunc_ownF rfl (by omega) (gf := 176) (lb := #[.pointer (some ⟨w2.heap.size, 0, none⟩)]) rfl trivial (enters_of Tryz.func176 (by kernel_rfl) rfl)
   (each_stops Fence.wide _ trivial rfl (by omega) w2.heap.size 3 b r hr x0 x1 x2 el w3 hB3.out) (fun h h' => h.trans h') (fun W l o o' _ hl ho _ => KeepD.putObj W l o o' hl ho) (Below.refl _ _) (fun _ => rfl)
   (fun pre W => Txt w #[.int .i64 3, .int .i64 b, .int .i64 r, .int .i64 x0.1, .int .i64 x1.1, .int .i64 x2.1, .string el] ([97, 114, 114, 60] ++ extBytes pre) W) (fun _ _ _ => False) (txt_own w _ (fun pre => [97, 114, 114, 60] ++ extBytes pre) _ T3.below.size) (fun _ _ _ _ _ hs _ _ => hs) T3
   (fun x => { tmps := #[.agg #[.int .i64 3, .int .i64 b, .int .i64 r, .int .i64 x0.1, .int .i64 x1.1, .int .i64 x2.1, .string el], .pointer (some ⟨w.heap.size, 0, none⟩), .string ⟨#[]⟩, .pointer (some ⟨w.heap.size + 1, 0, none⟩), .int .i64 x.1, .pointer (some ⟨w.heap.size, 0, none⟩), .int .i64 3, .bool false, undef, Value.tuple #[.int .i64 3, .nilIface], .nilIface, .agg #[.int .i64 3, .int .i64 b, .int .i64 r, .int .i64 x0.1, .int .i64 x1.1, .int .i64 x2.1, .string el], .func (.func 176) #[] #[.pointer (some ⟨w2.heap.size, 0, none⟩)], .int .i64 x.1, undef, undef, undef, undef, undef, undef, undef, undef, undef], defers := [] }) ?assign ?body ?done ?stop
  case assign =>
   intro l x W K hK
   gi_wp2
   exact hK
  case body =>
   rintro l pre x W hT hlt
   have hlen := Lib.hid (extBytes_len pre)
   have hil := Lib.hid (show (⟨(Lib.itoa x.1).toArray⟩ : ByteArray).size ≤ 4 from (by have := itoa_len x.2; simpa [ByteArray.size] using this))
   have hil2 := Lib.hid (itoa_len x.2)
   gi_wp2_with fail
   refine ⟨trivial, (CallsIn.inRound l (callsIn_wide.2 (itoa_any x.1 x.2 W (hE'.out.below hT.below)))).mono ?_⟩
   rintro e w4 ⟨rfl, hb4, hko4⟩
   have T4 := hT.other hb4
   have K4 := Lib.hid (And.intro hko4 (KeepD.below hb4 (Nat.le_refl _)))
   clear hb4 hko4
   gi_wp2_with fail
   refine ⟨trivial, (CallsIn.inRound l (callsIn_wide.2 (T4.str ⟨(Lib.itoa x.1).toArray⟩ (by have := hlen.out; have := hil.out; simp at *; omega)))).mono ?_⟩
   rintro e w5 ⟨rfl, T5, _, hko5, hkd5⟩
   have K5 := Lib.hid (And.intro (K4.out.1.trans hko5) (K4.out.2.trans hkd5))
   clear hko5 hkd5 T4
   gi_wp2_with fail
   refine ⟨trivial, (CallsIn.inRound l (callsIn_wide.2 (T5.byte 120 120 rfl (by have := hlen.out; have := hil2.out; simp at *; omega)))).mono ?_⟩
   rintro e w6 ⟨rfl, T6, _, hko6, hkd6⟩
   have K6 := Lib.hid (And.intro (K5.out.1.trans hko6) (K5.out.2.trans hkd6))
   clear hko6 hkd6 T5
   gi_wp2_with fail
   exact ⟨K6.out.1, K6.out.2, by show Txt w _ (_ ++ extBytes (pre ++ [x])) w6; rw [extBytes_snoc]; simpa using T6⟩
  case done =>
   rintro Df ys W hD rfl hT hK
   have HK := Lib.hid hK
   clear hK
   obtain ⟨c0, c1, c2, c3, c4, c5, c6, _⟩ := cells7 hT.dsc
   have hlen := Lib.hid (extBytes_len (exts r x0 x1 x2))
   have hex := Lib.hid (show (exts r x0 x1 x2).length ≤ 3 by simp [exts]; omega)
   gi_wp2_with fail
   refine ⟨trivial, callsIn_wide.2 ((hT.str el (by have := hlen.out; have := hex.out; simp at *; omega)).mono ?_)⟩
   rintro e w7 ⟨rfl, T7, _, hko7, _⟩
   have HK7 := Lib.hid (hko7.same Df _ HK.out rfl)
   clear hko7
   gi_wp2_with fail
   refine ⟨trivial, callsIn_wide.2 ((T7.byte 62 62 rfl (by have := hlen.out; have := hex.out; simp at *; omega)).mono ?_)⟩
   rintro e w8 ⟨rfl, T8, _, hko8, _⟩
   have HK8 := Lib.hid (hko8.same Df _ HK7.out rfl)
   clear hko8
   gi_wp2_with fail
   refine ⟨trivial, callsIn_wide.2 (T8.out.mono ?_)⟩
   rintro e w9 ⟨rfl, hb9, hk9⟩
   have HK9 := Lib.hid (hk9 Df _ HK8.out rfl)
   have HB9 := Lib.hid (T8.below.trans (hb9.mono (by omega)))
   clear hb9 hk9
   gi_wp2_with fail
   refine ⟨by simp, .inl ⟨_, _, rfl, run_takeDeferred HK9.out, ?_⟩⟩
   refine ⟨_, results_tmp rfl _ _ _, str_end (x := 97 :: 114 :: 114 :: 60 :: (extBytes (exts r x0 x1 x2) ++ (el.data.toList ++ [62]))) (y := textSpec 3 r x0 x1 x2 el.data.toList) (by simp [textSpec, textHead]) (HB9.out.trans (belowK_b (w := w) (Nat.le_refl _) w9 Df _ _ (by have := T3.below.size; omega) HK9.out rfl rfl))⟩
  case stop =>
   rintro Df c pre W _ _ h _
   exact h.elim
end Go.Proofs.YtgimdkgjfenafaaGreatDoor
namespace Go.Proofs.YtgimdkgjfenafaaGreatDoor
open Go.RowKit
section
variable {s el : ByteArray} {k b e0 e1 e2 : Int} {r : Nat}
set_option maxHeartbeats 400000 in
set_option maxRecDepth 100000 in
theorem Turned_no (h : NoTy s) (w : World) (hE : Env w) :
  Calls Tryz.prog 93 #[.string s] w fun e w' => e = .returned (.tuple #[.string ⟨#[]⟩, .int .i64 10]) ∧ Below w.heap.size w w' := by
 have hE' := Lib.hid hE
 clear hE
 go_enter Tryz.func93, Tryz.ntmps93
 go_wp2_with fail
 refine (shaped_no h _ hE'.out).mono ?_
 rintro e w1 ⟨rfl, hb1⟩
 have HB1 := Lib.hid hb1
 clear hb1
 go_wp2_with fail
 go_ret2
 exact ⟨rfl, HB1.out.alloc HB1.out.size _⟩
set_option maxHeartbeats 400000 in
set_option maxRecDepth 100000 in
theorem Turned_arg (h : Ty s k b r e0 e1 e2 el) (hk : ¬ (k = 2 ∨ k = 3)) (w : World) (hE : Env w) :
  Calls Tryz.prog 93 #[.string s] w fun e w' => e = .returned (.tuple #[.string ⟨#[]⟩, .int .i64 1]) ∧ Below w.heap.size w w' := by
 have hE' := Lib.hid hE
 clear hE
 go_enter Tryz.func93, Tryz.ntmps93
 go_wp2_with fail
 refine (shaped_arg h hk _ hE'.out).mono ?_
 rintro e w1 ⟨rfl, hb1⟩
 have HB1 := Lib.hid hb1
 clear hb1
 go_wp2_with fail
 go_ret2
 exact ⟨rfl, HB1.out.alloc HB1.out.size _⟩
set_option maxHeartbeats 400000 in
set_option maxRecDepth 100000 in
theorem Turned_2 (h : Ty s 2 b r e0 e1 e2 el) (h0 : 0 ≤ e0 ∧ e0 ≤ 1000) (h1 : 0 ≤ e1 ∧ e1 ≤ 1000) (h2 : 0 ≤ e2 ∧ e2 ≤ 1000) (hr : r ≤ 3) (hel : el.size ≤ 1000000) (w : World) (hE : Env w) :
  Calls Tryz.prog 93 #[.string s] w fun e w' => e = .returned (.tuple #[.string ⟨(textSpec 3 r ⟨e0, h0⟩ ⟨e1, h1⟩ ⟨e2, h2⟩ el.data.toList).toArray⟩, .int .i64 0]) ∧ Below w.heap.size w w' := by
 have hE' := Lib.hid hE
 clear hE
 go_enter Tryz.func93, Tryz.ntmps93
 go_wp2_with fail
 refine (shaped_yes h (by omega) _ hE'.out).mono ?_
 rintro e w1 ⟨rfl, hb1⟩
 have HB1 := Lib.hid hb1
 clear hb1
 go_wp2_with fail
 have HB2 := Lib.hid (HB1.out.alloc HB1.out.size (.cells #[.int .i64 3, .int .i64 b, .int .i64 r, .int .i64 e0, .int .i64 e1, .int .i64 e2, .string el] 205))
 refine (text_any 3 b (by omega) r hr ⟨e0, h0⟩ ⟨e1, h1⟩ ⟨e2, h2⟩ el hel _ (hE'.out.below HB2.out)).mono ?_
 rintro e w2 ⟨rfl, hb2⟩
 have HB3 := Lib.hid (HB2.out.trans (hb2.mono HB2.out.size))
 clear hb2
 go_wp2_with fail
 go_ret2
 exact ⟨rfl, HB3.out⟩
set_option maxHeartbeats 400000 in
set_option maxRecDepth 100000 in
theorem Turned_3 (h : Ty s 3 b r e0 e1 e2 el) (h0 : 0 ≤ e0 ∧ e0 ≤ 1000) (h1 : 0 ≤ e1 ∧ e1 ≤ 1000) (h2 : 0 ≤ e2 ∧ e2 ≤ 1000) (hr : r ≤ 3) (hel : el.size ≤ 1000000) (w : World) (hE : Env w) :
  Calls Tryz.prog 93 #[.string s] w fun e w' => e = .returned (.tuple #[.string ⟨(textSpec 2 r ⟨e0, h0⟩ ⟨e1, h1⟩ ⟨e2, h2⟩ el.data.toList).toArray⟩, .int .i64 0]) ∧ Below w.heap.size w w' := by
 have hE' := Lib.hid hE
 clear hE
 go_enter Tryz.func93, Tryz.ntmps93
 go_wp2_with fail
 refine (shaped_yes h (by omega) _ hE'.out).mono ?_
 rintro e w1 ⟨rfl, hb1⟩
 have HB1 := Lib.hid hb1
 clear hb1
 go_wp2_with fail
 have HB2 := Lib.hid (HB1.out.alloc HB1.out.size (.cells #[.int .i64 2, .int .i64 b, .int .i64 r, .int .i64 e0, .int .i64 e1, .int .i64 e2, .string el] 205))
 refine (text_any 2 b (by omega) r hr ⟨e0, h0⟩ ⟨e1, h1⟩ ⟨e2, h2⟩ el hel _ (hE'.out.below HB2.out)).mono ?_
 rintro e w2 ⟨rfl, hb2⟩
 have HB3 := Lib.hid (HB2.out.trans (hb2.mono HB2.out.size))
 clear hb2
 go_wp2_with fail
 go_ret2
 exact ⟨rfl, HB3.out⟩
end
end Go.Proofs.YtgimdkgjfenafaaGreatDoor
