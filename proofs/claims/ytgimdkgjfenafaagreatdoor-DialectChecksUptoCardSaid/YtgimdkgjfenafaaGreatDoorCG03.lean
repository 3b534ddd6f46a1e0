import Derived.Test.YtgimdkgjfenafaaGreatDoorCG01
import Derived.Test.YtgimdkgjfenafaaGreatDoorCG02
import Derived.WalkSmall
import Derived.BigQuiet
import Derived.Deep.QuietTactic
import Derived.Deep.RegionWith
namespace Go.Proofs.YtgimdkgjfenafaaGreatDoor
open Go.RowKit
structure Env (w : World) : Prop where
 syn : ∃ tp p, w.var? Tryz.prog "strconv.ErrSyntax" = some #[.iface tp p]
 ran : ∃ tp p, w.var? Tryz.prog "strconv.ErrRange" = some #[.iface tp p]
 pow : Lib.TabIs Tryz.prog w "internal/strconv.uint64pow10" .u64 Lib.pow10Tab
 mx : ∃ m : Int, w.var? Tryz.prog "internal/bytealg.MaxLen" = some #[.int .i64 m]
theorem g_syn : Tryz.prog.globalNamed "strconv.ErrSyntax" = some 2 := by kernel_rfl
theorem g_ran : Tryz.prog.globalNamed "strconv.ErrRange" = some 3 := by kernel_rfl
theorem g_pow : Tryz.prog.globalNamed "internal/strconv.uint64pow10" = some 1 := by kernel_rfl
theorem g_mx : Tryz.prog.globalNamed "internal/bytealg.MaxLen" = some 0 := by kernel_rfl
theorem var_lt {P : Program} {w : World} {n : String} {g : Nat} {cs : Array Value} (hg : P.globalNamed n = some g) (h : w.var? P n = some cs) : g < w.heap.size := by
 unfold World.var? at h
 rw [hg] at h
 simp only [Option.bind_some] at h
 split at h
 ·exact lt_of_block ‹_›
 ·cases h
theorem Env.below {w w' : World} (h : Env w) (hb : Below w.heap.size w w') : Env w' := by
 obtain ⟨⟨t1, p1, h1⟩, ⟨t2, p2, h2⟩, h3, ⟨m, h4⟩⟩ := h
 exact ⟨⟨t1, p1, var?_below hb g_syn (var_lt g_syn h1) h1⟩, ⟨t2, p2, var?_below hb g_ran (var_lt g_ran h2) h2⟩, var?_below hb g_pow (var_lt g_pow h3) h3, ⟨m, var?_below hb g_mx (var_lt g_mx h4) h4⟩⟩
theorem below_of_grown {B : Nat} {w w' : World} {r : Nat} (h : w.grownBy w' (some r)) (hB : B ≤ w.heap.size) (hr : B ≤ r) : Below B w w' :=
 (Below.refl B w).grown h hB (fun k e => by cases e; exact hr)
theorem Env.grown {w0 w w' : World} {r : Nat} (h : Env w0) (hb : Below w0.heap.size w0 w) (hg : w.grownBy w' (some r)) (hr : w0.heap.size ≤ r) : Env w' :=
 h.below (hb.trans (below_of_grown hg hb.size hr))
def AtoiPost (d : ByteArray) (w : World) (e : Ending) (w' : World) : Prop :=
 Below w.heap.size w w' ∧ ((∃ v, Lib.atoiAll d.data.toList = .ok v ∧ e = .returned (.tuple #[.int .i64 v, .nilIface])) ∨
  ((∀ v, Lib.atoiAll d.data.toList ≠ .ok v) ∧ ∃ n t p, e = .returned (.tuple #[.int .i64 n, .iface t p])))
theorem below_freeze {B : Nat} {a w : World} (h : Below B a w) {p : Addr} (hp : B ≤ p.block) (n : Nat) : Below B a (w.freeze p n) := by
 by_cases hn : n = 0
 ·rw [World.freeze, if_pos hn]; exact h
 ·rw [World.freeze, if_neg hn]
  refine h.trans ⟨rfl, rfl, rfl, by simp, fun k hk => ?_⟩
  show (w.heap.modify p.block _)[k]? = _
  rw [Array.getElem?_modify, if_neg (by omega)]
theorem below_bytes (w : World) (t : TypeId) (k : ByteArray) : Below w.heap.size w (Lib.bytesWorld w t k) :=
 below_freeze ((Below.refl _ _).drew.alloc (Nat.le_refl _) _) (Nat.le_refl _) _
theorem atoi_any (d : ByteArray) (hd : d.size ≤ 60) (w : World) (hE : Env w) :
  Calls Tryz.prog 201 #[.string d] w (AtoiPost d w) := by
 obtain ⟨z, hz⟩ : ∃ z, z = Lib.atoiAll d.data.toList := ⟨_, rfl⟩
 have h := hz.symm
 clear hz
 rcases z with v | _ | _
 ·refine (Tryz.strconv_Atoi_ok d (by omega) v h w).mono ?_
  rintro e w' ⟨rfl, hw⟩
  refine ⟨?_, .inl ⟨v, h, rfl⟩⟩
  rcases hw with rfl | ⟨t, rfl⟩
  ·exact Below.refl _ _
  ·exact below_bytes w _ t
 ·obtain ⟨tp, p, hv⟩ := hE.syn
  refine (Any.strconv_Atoi_syntax_var Tryz.laysC172 d (by omega) h tp p w hv).mono ?_
  rintro e w' ⟨N, rfl, _, _, hb⟩
  exact ⟨hb, .inr ⟨fun v => by rw [h]; simp, _, _, _, rfl⟩⟩
 ·obtain ⟨tp, p, hv⟩ := hE.ran
  refine (Tryz.strconv_Atoi_range_var d (by omega) h tp p w hv).mono ?_
  rintro e w' ⟨N, rfl, _, _, hb⟩
  exact ⟨hb, .inr ⟨fun v => by rw [h]; simp, _, _, _, rfl⟩⟩
def numSpec (l : List UInt8) (lo hi : Int) : Int × Bool :=
 if 1 < l.length ∧ l.head? = some 48 then (0, false)
 else match Lib.atoiAll l with | .ok v => if lo ≤ v ∧ v ≤ hi then (v, true) else (0, false) | _ => (0, false)
def NumPost (d : ByteArray) (lo hi : Int) (w : World) (e : Ending) (w' : World) : Prop :=
 e = .returned (.tuple #[.int .i64 (numSpec d.data.toList lo hi).1, .bool (numSpec d.data.toList lo hi).2]) ∧ Below w.heap.size w w'
theorem numPost_of {d : ByteArray} {lo hi v : Int} {ok : Bool} {w w' : World} (h : numSpec d.data.toList lo hi = (v, ok)) (hb : Below w.heap.size w w') :
  NumPost d lo hi w (.returned (.tuple #[.int .i64 v, .bool ok])) w' := ⟨by rw [h], hb⟩
theorem head_at (d : ByteArray) (h : 0 < d.size) : d.data.toList.head? = some (d[0]'h) := by
 have : 0 < d.data.toList.length := by simpa using h
 rw [List.head?_eq_getElem?, List.getElem?_eq_getElem this]
 rfl
theorem numSpec_zero {d : ByteArray} {lo hi : Int} (h1 : 1 < d.size) (h0 : (((d[0]'(by omega)).toNat : Int) == 48) = true) : numSpec d.data.toList lo hi = (0, false) := by
 have e : d.data.toList.head? = some 48 := by
  rw [head_at d (by omega)]
  simp at h0
  exact congrArg some (UInt8.toNat_inj.1 (by simpa using (by omega : (d[0]'(by omega)).toNat = 48)))
 rw [numSpec, if_pos ⟨by simpa using h1, e⟩]
theorem numSpec_else {d : ByteArray} {lo hi : Int} (h : 1 < d.size → ∃ hp : 0 < d.size, (((d[0]'hp).toNat : Int) == 48) = false) :
  numSpec d.data.toList lo hi = match Lib.atoiAll d.data.toList with | .ok v => if lo ≤ v ∧ v ≤ hi then (v, true) else (0, false) | _ => (0, false) := by
 rw [numSpec, if_neg]
 rintro ⟨h1, h2⟩
 obtain ⟨hp, h0⟩ := h (by simpa using h1)
 rw [head_at d hp] at h2
 have : d[0]'hp = 48 := Option.some.inj h2
 rw [this] at h0
 simp at h0
set_option maxHeartbeats 400000 in
theorem number_any (d : ByteArray) (lo hi : Int) (hd : d.size ≤ 60) (w : World) (hE : Env w) :
  Calls Tryz.prog 189 #[.string d, .int .i64 lo, .int .i64 hi] w (NumPost d lo hi w) := by
 have part : (1 < d.size ∧ ∃ h : 0 < d.size, (((d[0]'h).toNat : Int) == 48) = true) ∨ (1 < d.size ∧ ∃ h : 0 < d.size, (((d[0]'h).toNat : Int) == 48) = false) ∨ ¬ 1 < d.size := by
  by_cases h1 : 1 < d.size
  ·cases h0 : (((d[0]'(by omega)).toNat : Int) == 48)
   ·exact .inr (.inl ⟨h1, by omega, h0⟩)
   ·exact .inl ⟨h1, by omega, h0⟩
  ·exact .inr (.inr h1)
 rcases part with ⟨h1, hp, h0⟩ | hrest
 ·have hs := Lib.hid (numSpec_zero (lo := lo) (hi := hi) h1 h0)
  go_enter Tryz.func189, Tryz.ntmps189
  go_wp2
  go_ret2
  exact numPost_of hs.out (Below.refl _ _)
 ·have hs := Lib.hid (numSpec_else (d := d) (lo := lo) (hi := hi) (by
   rcases hrest with ⟨_, h⟩ | h
   ·exact fun _ => h
   ·exact fun h' => absurd h' h))
  rcases hrest with ⟨h1, hp, h0⟩ | h1
  all_goals
   go_enter Tryz.func189, Tryz.ntmps189
   go_wp2_with fail
   refine (atoi_any d hd w hE).mono ?_
   rintro e w1 ⟨hb, ⟨v, hv, rfl⟩ | ⟨hv, n, t, p, rfl⟩⟩
   ·rw [hv] at hs
    by_cases hlo : lo ≤ v
    ·by_cases hhi : v ≤ hi
     ·go_wp2_with fail
      go_ret2
      exact numPost_of (hs.out.trans (if_pos ⟨hlo, hhi⟩)) hb
     ·go_wp2_with fail
      go_ret2
      exact numPost_of (hs.out.trans (if_neg (fun h => by omega))) hb
    ·go_wp2_with fail
     go_ret2
     exact numPost_of (hs.out.trans (if_neg (fun h => by omega))) hb
   ·have hs2 : Hid (numSpec d.data.toList lo hi = (0, false)) := by
     rw [hs.out]
     cases hz : Lib.atoiAll d.data.toList with
     | ok v => exact absurd hz (hv v)
     | _ => rfl
    clear hv
    go_wp2_with fail
    go_ret2
    exact numPost_of hs2.out hb
def nameSpec (l : List UInt8) : Bool × List UInt8 :=
 ((match l.takeWhile bPart with | [] => false | c :: _ => bLetter c), l.dropWhile bPart)
def NamePost (bl : Nat) (s : ByteArray) (w : World) (e : Ending) (w' : World) : Prop :=
 ∃ (ok : Bool) (q : ByteArray), e = .returned (.bool ok) ∧ nameSpec s.data.toList = (ok, q.data.toList) ∧ w'.heap[bl]? = some (.cells #[.string q] 9 (0, 0)) ∧ w.grownBy w' (some bl)
theorem namePost_of {bl : Nat} {s r q : ByteArray} {w w' : World} {ok : Bool} (hr : r.data.toList = s.data.toList.takeWhile bPart) (hq : q.data.toList = s.data.toList.dropWhile bPart)
  (hok : (match r.data.toList with | [] => false | c :: _ => bLetter c) = ok) (hb : w'.heap[bl]? = some (.cells #[.string q] 9 (0, 0))) (hg : w.grownBy w' (some bl)) : NamePost bl s w (.returned (.bool ok)) w' :=
 ⟨ok, q, rfl, by rw [nameSpec, ← hr, ← hq, hok], hb, hg⟩
theorem name_head {r : ByteArray} (h : 0 < r.size) : (match r.data.toList with | [] => false | c :: _ => bLetter c) = chLetter ((r[0]'h).toNat : Int) := by
 have := head_at r h
 cases hl : r.data.toList with
 | nil => rw [hl] at this; cases this
 | cons c l =>
  rw [hl] at this
  have e : c = r[0]'h := Option.some.inj this
  rw [← e]; rfl
set_option maxHeartbeats 400000 in
theorem takeName_any (bl : Nat) (s : ByteArray) (w : World) (hb : w.heap[bl]? = some (.cells #[.string s] 9 (0, 0))) :
  Calls Tryz.prog 200 #[.func (.func 184) #[] #[.pointer (some ⟨bl, 0, none⟩)]] w (NamePost bl s w) := by
 go_enter Tryz.func200, Tryz.ntmps200
 go_wp2_with fail
 refine (take_part bl s _ hb).mono ?_
 clear hb
 rintro e w1 ⟨r, q, rfl, hr, hq, hb, hg⟩
 have Hr := Lib.hid hr
 have Hq := Lib.hid hq
 have Hb := Lib.hid hb
 clear hr hq hb
 cases hre : r.toList.isEmpty
 ·have h0 := nonempty_of hre
  have hpos : 0 < r.size := by
   rw [size_eq]; exact List.length_pos_iff.2 h0
  clear h0
  have hr0 : ((r[0]'hpos).toNat : Int) < 256 := by have := (r[0]'hpos).toNat_lt; omega
  go_wp2_with fail
  refine (isLetter_any _ _).mono ?_
  rintro e w2 ⟨rfl, rfl⟩
  go_wp2_with fail
  go_ret
  exact namePost_of Hr.out Hq.out (name_head hpos) Hb.out hg
 ·have h0 := Lib.hid (empty_of hre)
  go_wp2_with fail
  go_ret
  exact namePost_of Hr.out Hq.out (by rw [h0.out]) Hb.out hg
def foreignSpec (l : List UInt8) : Bool × List UInt8 :=
 let a := nameSpec l
 if a.1 = false then (false, a.2)
 else if a.2.takeWhile (bIs 46) = [46] then nameSpec (a.2.dropWhile (bIs 46)) else (false, a.2.dropWhile (bIs 46))
def ForeignPost (bl : Nat) (s : ByteArray) (w : World) (e : Ending) (w' : World) : Prop :=
 ∃ (ok : Bool) (q : ByteArray), e = .returned (.tuple #[.agg #[.int .i64 4, .int .i64 0, .int .i64 0, .int .i64 0, .int .i64 0, .int .i64 0, .string ⟨#[]⟩], .bool ok]) ∧ foreignSpec s.data.toList = (ok, q.data.toList) ∧
  w'.heap[bl]? = some (.cells #[.string q] 9 (0, 0)) ∧ w.grownBy w' (some bl)
theorem block_kept {w w' : World} {b r : Nat} {o : Obj} (h : w.heap[b]? = some o) (hg : w.grownBy w' (some r)) (hne : b ≠ r) : w'.heap[b]? = some o :=
 (hg.block b (lt_of_block h) (fun e => hne (by cases e; rfl))).trans h
theorem cells7 {w : World} {b : Nat} {t : TypeId} {v0 v1 v2 v3 v4 v5 v6 : Value} (h : w.heap[b]? = some (.cells #[v0, v1, v2, v3, v4, v5, v6] t (0, 0))) :
  w.cell? ⟨b, 0, none⟩ = some v0 ∧ w.cell? ⟨b, 1, none⟩ = some v1 ∧ w.cell? ⟨b, 2, none⟩ = some v2 ∧ w.cell? ⟨b, 3, none⟩ = some v3 ∧ w.cell? ⟨b, 4, none⟩ = some v4 ∧ w.cell? ⟨b, 5, none⟩ = some v5 ∧ w.cell? ⟨b, 6, none⟩ = some v6 ∧
   ∀ j, w.frozen? ⟨b, j, none⟩ = false := by
 refine ⟨?_, ?_, ?_, ?_, ?_, ?_, ?_, fun j => ?_⟩ <;> simp [World.cell?, World.frozen?, h]
theorem setCell_size (w : World) (a : Addr) (v : Value) : (w.setCell a v).heap.size = w.heap.size := by simp [World.setCell]
theorem set7_block {w : World} {b : Nat} {t : TypeId} {v0 v1 v2 v3 v4 v5 v6 u0 u1 u2 u3 u4 u5 u6 : Value} (h : w.heap[b]? = some (.cells #[v0, v1, v2, v3, v4, v5, v6] t (0, 0))) :
  (((((((w.setCell ⟨b, 0, none⟩ u0).setCell ⟨b, 1, none⟩ u1).setCell ⟨b, 2, none⟩ u2).setCell ⟨b, 3, none⟩ u3).setCell ⟨b, 4, none⟩ u4).setCell ⟨b, 5, none⟩ u5).setCell ⟨b, 6, none⟩ u6).heap[b]? = some (.cells #[u0, u1, u2, u3, u4, u5, u6] t (0, 0)) := by
 have h0 := heap_setCell_same _ b 0 _ t u0 h
 have h1 := heap_setCell_same _ b 1 _ t u1 h0
 have h2 := heap_setCell_same _ b 2 _ t u2 h1
 have h3 := heap_setCell_same _ b 3 _ t u3 h2
 have h4 := heap_setCell_same _ b 4 _ t u4 h3
 have h5 := heap_setCell_same _ b 5 _ t u5 h4
 have h6 := heap_setCell_same _ b 6 _ t u6 h5
 rw [h6]
 rfl
theorem descVar {w : World} {b : Nat} {v0 v1 v2 v3 v4 v5 v6 : Value} (h : w.heap[b]? = some (.cells #[v0, v1, v2, v3, v4, v5, v6] 205 (0, 0))) :
  (loadVar 205 ⟨b, 0, none⟩).run Tryz.prog w = .ok (.agg #[v0, v1, v2, v3, v4, v5, v6]) w :=
 run_loadVar_row w b _ _ _ _ _ h Tryz.underlying205 rfl (by kernel_rfl)
theorem set7_other {w : World} {b k : Nat} {u0 u1 u2 u3 u4 u5 u6 : Value} (h : k ≠ b) :
  (((((((w.setCell ⟨b, 0, none⟩ u0).setCell ⟨b, 1, none⟩ u1).setCell ⟨b, 2, none⟩ u2).setCell ⟨b, 3, none⟩ u3).setCell ⟨b, 4, none⟩ u4).setCell ⟨b, 5, none⟩ u5).setCell ⟨b, 6, none⟩ u6).heap[k]? = w.heap[k]? := by
 rw [heap_setCell_other _ _ _ _ h, heap_setCell_other _ _ _ _ h, heap_setCell_other _ _ _ _ h, heap_setCell_other _ _ _ _ h, heap_setCell_other _ _ _ _ h, heap_setCell_other _ _ _ _ h, heap_setCell_other _ _ _ _ h]
theorem grown_setCell {w0 w : World} {a : Addr} {r : Option Nat} {v : Value} (hg : w0.grownBy w r) (hb : w0.heap.size ≤ a.block) : w0.grownBy (w.setCell a v) r := by
 refine ⟨hg.os, hg.tape, hg.output, ?_, fun k hk hne => ?_⟩
 ·rw [setCell_size]; exact hg.size
 ·rw [heap_setCell_other _ _ _ _ (by omega)]; exact hg.block k hk hne
theorem set7_grown {w0 w : World} {b : Nat} {r : Option Nat} {u0 u1 u2 u3 u4 u5 u6 : Value} (hg : w0.grownBy w r) (hb : w0.heap.size ≤ b) :
  w0.grownBy (((((((w.setCell ⟨b, 0, none⟩ u0).setCell ⟨b, 1, none⟩ u1).setCell ⟨b, 2, none⟩ u2).setCell ⟨b, 3, none⟩ u3).setCell ⟨b, 4, none⟩ u4).setCell ⟨b, 5, none⟩ u5).setCell ⟨b, 6, none⟩ u6) r :=
 grown_setCell (grown_setCell (grown_setCell (grown_setCell (grown_setCell (grown_setCell (grown_setCell hg hb) hb) hb) hb) hb) hb) hb
theorem results_cell_tmp {P : Program} {fn : Func} {a j : Nat} {T : TypeId} {tmps : Array Value} {w : World} {b : Nat} {v x : Value} (hr : fn.results = #[.cell a T, .tmp j]) (ha : tmps.getD a undef = .pointer (some ⟨b, 0, none⟩)) (hj : tmps.getD j undef = x)
  (hl : (loadVar T ⟨b, 0, none⟩).run P w = .ok v w) : (results fn tmps).run P w = .ok (.tuple #[v, x]) w := by
 simp only [results, hr]
 rw [Array.getD_eq_getD_getElem?] at ha hj
 simp [ha, hj, hl, asAddr, Result.andThen]
theorem results_cell {P : Program} {fn : Func} {a : Nat} {T : TypeId} {tmps : Array Value} {w : World} {b : Nat} {v : Value} (hr : fn.results = #[.cell a T]) (ha : tmps.getD a undef = .pointer (some ⟨b, 0, none⟩))
  (hl : (loadVar T ⟨b, 0, none⟩).run P w = .ok v w) : (results fn tmps).run P w = .ok v w := by
 simp only [results, hr]
 rw [Array.getD_eq_getD_getElem?] at ha
 simp [ha, hl, asAddr]
theorem eq_of_beq_toList {r : ByteArray} {l : List UInt8} (h : (r.toList == l) = true) : r.data.toList = l := by rw [← toList_data]; simpa using h
theorem ne_of_beq_toList {r : ByteArray} {l : List UInt8} (h : (r.toList == l) = false) : ¬ r.data.toList = l := by rw [← toList_data]; simpa using h
theorem foreign_no {s q1 r3 q3 : ByteArray} (h1 : nameSpec s.data.toList = (true, q1.data.toList)) (h3 : r3.data.toList = q1.data.toList.takeWhile (bIs 46)) (h3q : q3.data.toList = q1.data.toList.dropWhile (bIs 46))
  (hd : (r3.toList == [46]) = false) : foreignSpec s.data.toList = (false, q3.data.toList) := by
 have := ne_of_beq_toList hd
 rw [h3] at this
 simp only [foreignSpec, h1]
 rw [if_neg (by simp), if_neg this, h3q]
theorem foreign_yes {s q1 r3 q3 q4 : ByteArray} {ok : Bool} (h1 : nameSpec s.data.toList = (true, q1.data.toList)) (h3 : r3.data.toList = q1.data.toList.takeWhile (bIs 46)) (h3q : q3.data.toList = q1.data.toList.dropWhile (bIs 46))
  (hd : (r3.toList == [46]) = true) (h4 : nameSpec q3.data.toList = (ok, q4.data.toList)) : foreignSpec s.data.toList = (ok, q4.data.toList) := by
 have := eq_of_beq_toList hd
 rw [h3] at this
 simp only [foreignSpec, h1]
 rw [if_neg (by simp), if_pos this, ← h3q, h4]
set_option maxHeartbeats 400000 in
theorem readForeign_any (bl : Nat) (s : ByteArray) (w : World) (hb : w.heap[bl]? = some (.cells #[.string s] 9 (0, 0))) :
  Calls Tryz.prog 188 #[.func (.func 184) #[] #[.pointer (some ⟨bl, 0, none⟩)]] w (ForeignPost bl s w) := by
 have hlt := lt_of_block hb
 have hba : ∀ o, Hid ((w.alloc o).heap[bl]? = some (.cells #[.string s] 9 (0, 0))) := fun o =>
  (Below.heap_alloc _ _ _ (lt_of_block hb)).trans hb
 clear hb
 go_enter Tryz.func188, Tryz.ntmps188
 go_wp2_with fail
 refine (takeName_any bl s _ (hba _).out).mono ?_
 rintro e w1 ⟨ok1, q1, rfl, h1, hb1, hg1⟩
 have H1 := Lib.hid h1
 have Hb1 := Lib.hid hb1
 clear h1 hb1
 have hgw1 : Hid (w.grownBy w1 (some bl)) := grown_trans (World.grownBy_alloc _ _ _) hg1
 have hr1 := block_kept (heap_alloc_new _ _) hg1 (by omega)
 obtain ⟨c0, c1, c2, c3, c4, c5, c6, hfz⟩ := cells7 hr1
 clear hg1
 have Hr1 := Lib.hid hr1
 clear hr1
 cases ok1
 ·go_wp2_with fail
  refine bodyPost_ret (v := .tuple #[.agg #[.int .i64 4, .int .i64 0, .int .i64 0, .int .i64 0, .int .i64 0, .int .i64 0, .string ⟨#[]⟩], .bool false]) (results_cell_tmp Tryz.results188 rfl rfl (descVar (set7_block Hr1.out))) rfl ?_
  exact ⟨_, q1, rfl, by rw [foreignSpec, H1.out]; rfl, (set7_other (by omega)).trans Hb1.out, set7_grown hgw1.out (Nat.le_refl _)⟩
 ·go_wp2_with fail
  refine (only_any 46 _).mono ?_
  rintro e w2 ⟨rfl, hw2⟩
  have hb2 : w2.heap[bl]? = some (.cells #[.string q1] 9 (0, 0)) := by rw [← hw2]; exact (Below.heap_alloc _ _ _ (lt_of_block Hb1.out)).trans Hb1.out
  have ho2 : w2.cell? ⟨w1.heap.size, 0, none⟩ = some (.int .i32 46) := by rw [← hw2]; simp
  have hg2 : w1.grownBy w2 (some bl) := by rw [← hw2]; exact World.grownBy_alloc _ _ _
  have hgw2 : Hid (w.grownBy w2 (some bl)) := grown_trans hgw1.out hg2
  have hr2 := block_kept Hr1.out hg2 (by omega)
  clear hw2 c0 c1 c2 c3 c4 c5 c6 hfz hg2
  have Hr2 := Lib.hid hr2
  clear hr2
  go_wp2_with fail
  refine (take_only bl w1.heap.size 46 (by omega) q1 _ hb2 ho2).mono ?_
  rintro e w3 ⟨r3, q3, rfl, hr3, hq3, hb3, hg3⟩
  have H3 := Lib.hid hr3
  have H3q := Lib.hid hq3
  have Hb3 := Lib.hid hb3
  clear hr3 hq3 hb3 hb2 ho2
  have hgw3 : Hid (w.grownBy w3 (some bl)) := grown_trans hgw2.out hg3
  have hr3 := block_kept Hr2.out hg3 (by omega)
  obtain ⟨c0, c1, c2, c3, c4, c5, c6, hfz⟩ := cells7 hr3
  have Hr3 := Lib.hid hr3
  clear hg3 hr3
  cases hdot : (r3.toList == [46])
  ·go_wp2_with fail
   refine bodyPost_ret (v := .tuple #[.agg #[.int .i64 4, .int .i64 0, .int .i64 0, .int .i64 0, .int .i64 0, .int .i64 0, .string ⟨#[]⟩], .bool false]) (results_cell_tmp Tryz.results188 rfl rfl (descVar (set7_block Hr3.out))) rfl ?_
   exact ⟨_, q3, rfl, foreign_no H1.out H3.out H3q.out hdot, (set7_other (by omega)).trans Hb3.out, set7_grown hgw3.out (Nat.le_refl _)⟩
  ·clear c0 c1 c2 c3 c4 c5 c6 hfz
   go_wp2_with fail
   refine (takeName_any bl q3 _ Hb3.out).mono ?_
   rintro e w4 ⟨ok4, q4, rfl, h4, hb4, hg4⟩
   have H4 := Lib.hid h4
   have Hb4 := Lib.hid hb4
   have hgw4 : Hid (w.grownBy w4 (some bl)) := grown_trans hgw3.out hg4
   have hr4 := block_kept Hr3.out hg4 (by omega)
   obtain ⟨c0, c1, c2, c3, c4, c5, c6, hfz⟩ := cells7 hr4
   have Hr4 := Lib.hid hr4
   clear h4 hb4 hg4 hr4
   go_wp2_with fail
   refine bodyPost_ret (v := .tuple #[.agg #[.int .i64 4, .int .i64 0, .int .i64 0, .int .i64 0, .int .i64 0, .int .i64 0, .string ⟨#[]⟩], .bool ok4]) (results_cell_tmp Tryz.results188 rfl rfl (descVar (set7_block Hr4.out))) rfl ?_
   exact ⟨_, q4, rfl, foreign_yes H1.out H3.out H3q.out hdot H4.out, (set7_other (by omega)).trans Hb4.out, set7_grown hgw4.out (Nat.le_refl _)⟩
end Go.Proofs.YtgimdkgjfenafaaGreatDoor
namespace Go.Proofs.YtgimdkgjfenafaaGreatDoor
open Go.RowKit
set_option maxHeartbeats 400000 in
theorem isNumber_any (k b r e0 e1 e2 : Int) (el : ByteArray) (w : World) :
  Calls Tryz.prog 198 #[.agg #[.int .i64 k, .int .i64 b, .int .i64 r, .int .i64 e0, .int .i64 e1, .int .i64 e2, .string el]] w
   fun e w' => e = .returned (.bool (decide (0 < b))) ∧ w.alloc (.cells #[.int .i64 k, .int .i64 b, .int .i64 r, .int .i64 e0, .int .i64 e1, .int .i64 e2, .string el] 205) = w' := by
 go_enter Tryz.func198, Tryz.ntmps198
 go_wp2
 go_ret
 exact ⟨rfl, rfl⟩
set_option maxHeartbeats 400000 in
theorem isShaped_any (k b r e0 e1 e2 : Int) (el : ByteArray) (w : World) :
  Calls Tryz.prog 157 #[.agg #[.int .i64 k, .int .i64 b, .int .i64 r, .int .i64 e0, .int .i64 e1, .int .i64 e2, .string el]] w
   fun e w' => e = .returned (.bool (k == 2 || k == 3)) ∧ w.alloc (.cells #[.int .i64 k, .int .i64 b, .int .i64 r, .int .i64 e0, .int .i64 e1, .int .i64 e2, .string el] 205) = w' := by
 cases h2 : (k == 2) <;>
 ·go_enter Tryz.func157, Tryz.ntmps157
  go_wp2
  go_ret
  exact ⟨rfl, rfl⟩
def prodN (n : Nat) (e0 e1 e2 : Int) : Int := match n with | 0 => 1 | 1 => e0 | 2 => e0 * e1 | _ => e0 * e1 * e2
theorem prod_bound {e0 e1 e2 : Int} (h0 : 0 ≤ e0 ∧ e0 ≤ 1000) (h1 : 0 ≤ e1 ∧ e1 ≤ 1000) (h2 : 0 ≤ e2 ∧ e2 ≤ 1000) :
  (0 ≤ e0 * e1 ∧ e0 * e1 ≤ 1000000) ∧ (0 ≤ e0 * e1 * e2 ∧ e0 * e1 * e2 ≤ 1000000000) := by
 have a : 0 ≤ e0 * e1 := Int.mul_nonneg h0.1 h1.1
 have b : e0 * e1 ≤ 1000 * 1000 := Int.mul_le_mul h0.2 h1.2 h1.1 (by omega)
 have c : 0 ≤ e0 * e1 * e2 := Int.mul_nonneg a h2.1
 have d : e0 * e1 * e2 ≤ 1000000 * 1000 := Int.mul_le_mul (by omega) h2.2 h2.1 (by omega)
 omega
set_option maxHeartbeats 400000 in
theorem product_any (b n : Nat) (hn : n ≤ 3) (e0 e1 e2 : Int) (h0 : 0 ≤ e0 ∧ e0 ≤ 1000) (h1 : 0 ≤ e1 ∧ e1 ≤ 1000) (h2 : 0 ≤ e2 ∧ e2 ≤ 1000) (w : World)
  (c3 : w.cell? ⟨b, 3, none⟩ = some (.int .i64 e0)) (c4 : w.cell? ⟨b, 4, none⟩ = some (.int .i64 e1)) (c5 : w.cell? ⟨b, 5, none⟩ = some (.int .i64 e2)) :
  Calls Tryz.prog 226 #[.slice (some ⟨b, 3, none⟩) n 3] w fun e w' => e = .returned (.int .i64 (prodN n e0 e1 e2)) ∧ w = w' := by
 obtain ⟨⟨p1, p2⟩, ⟨p3, p4⟩⟩ := prod_bound h0 h1 h2
 obtain ⟨a0, b0⟩ := h0
 obtain ⟨a1, b1⟩ := h1
 obtain ⟨a2, b2⟩ := h2
 go_enter Tryz.func226, Tryz.ntmps226
 go_wp2
 go_loop [3, 8] (fun p i => ∃ k : Nat, k ≤ n ∧ i = .int .i64 k ∧ p = .int .i64 (prodN k e0 e1 e2)) (fun _ i => n - (intOf i).toNat)
 case atStart => exact ⟨0, Nat.zero_le _, rfl, rfl⟩
 case round =>
  obtain ⟨k, hk, rfl, rfl⟩ := hrel
  by_cases hlt : k < n
  ·rcases (show k = 0 ∨ k = 1 ∨ k = 2 by omega) with rfl | rfl | rfl
   all_goals
    go_wp2
    go_round
    case rel => exact ⟨_, hlt, by go_num, by simp [prodN]; exact IntWalk.wrap64_in _ ⟨by omega, by omega⟩⟩
    case measure => simp [intOf]; omega
  ·obtain rfl : k = n := by omega
   go_wp2
   go_ret
   exact ⟨rfl, rfl⟩
theorem slice_ext (n : Nat) (hn : n ≤ 3) (b : Nat) (w : World) :
  (Instr.sliceAt 203 (.pointer (some ⟨b, 3, none⟩)) none (some (.int .i64 n)) none).run Tryz.prog w = .ok (.slice (some ⟨b, 3, none⟩) n 3) w := by
 rcases (show n = 0 ∨ n = 1 ∨ n = 2 ∨ n = 3 by omega) with rfl | rfl | rfl | rfl
 all_goals kernel_rfl
set_option maxHeartbeats 400000 in
set_option maxRecDepth 100000 in
theorem cells_any (k b e0 e1 e2 : Int) (n : Nat) (el : ByteArray) (hn : n ≤ 3) (h0 : 0 ≤ e0 ∧ e0 ≤ 1000) (h1 : 0 ≤ e1 ∧ e1 ≤ 1000) (h2 : 0 ≤ e2 ∧ e2 ≤ 1000) (w : World) :
  Calls Tryz.prog 199 #[.agg #[.int .i64 k, .int .i64 b, .int .i64 n, .int .i64 e0, .int .i64 e1, .int .i64 e2, .string el]] w
   fun e w' => e = .returned (.int .i64 (prodN n e0 e1 e2)) ∧ w.alloc (.cells #[.int .i64 k, .int .i64 b, .int .i64 n, .int .i64 e0, .int .i64 e1, .int .i64 e2, .string el] 205) = w' := by
 have hsl := slice_ext n hn
 go_enter Tryz.func199, Tryz.ntmps199
 go_wp2_with fail
 refine (product_any w.heap.size n hn e0 e1 e2 h0 h1 h2 _ (by simp) (by simp) (by simp)).mono ?_
 rintro e w' ⟨rfl, rfl⟩
 go_wp2_with fail
 go_ret
 exact ⟨rfl, rfl⟩
end Go.Proofs.YtgimdkgjfenafaaGreatDoor
namespace Go.Proofs.YtgimdkgjfenafaaGreatDoor
open Go.RowKit
def EnvB (B : Nat) (w : World) : Prop := ∀ w', Below B w w' → Env w'
theorem EnvB.here {B : Nat} {w : World} (h : EnvB B w) : Env w := h w (Below.refl _ _)
theorem EnvB.step {B : Nat} {w w' : World} (h : EnvB B w) (hb : Below B w w') : EnvB B w' := fun _ h2 => h _ (hb.trans h2)
theorem EnvB.grown {B : Nat} {w w' : World} {r : Nat} (h : EnvB B w) (hg : w.grownBy w' (some r)) (hB : B ≤ w.heap.size) (hr : B ≤ r) : EnvB B w' := h.step (below_of_grown hg hB hr)
theorem EnvB.mono {B B' : Nat} {w : World} (h : EnvB B w) (hB : B ≤ B') : EnvB B' w := fun _ h2 => h _ (h2.mono hB)
def numB (l : List UInt8) : Bool :=
 decide (l.length ≤ 60) && (kindSpec l).2.1 && ((decide ((kindSpec l).1 = 1) && decide ((kindSpec l).2.2 = [])) ||
  (decide ((kindSpec l).1 = 0) && (numSpec ((kindSpec l).2.2.takeWhile bDigit) 1 64).2 && decide ((kindSpec l).2.2.dropWhile bDigit = [])))
def shapeLoop : Nat → List UInt8 → Nat → Int → Int → Int → Option (Nat × Int × Int × Int × List UInt8)
 | m, l, r, e0, e1, e2 =>
  if l.takeWhile bDigit = [] then some (r, e0, e1, e2, l.dropWhile bDigit)
  else if (numSpec (l.takeWhile bDigit) 0 1000).2 = false then none
  else if ¬ (l.dropWhile bDigit).takeWhile (bIs 120) = [120] then none
  else match m with
   | 0 => none
   | m + 1 => shapeLoop m ((l.dropWhile bDigit).dropWhile (bIs 120)) (r + 1)
     (if r = 0 then (numSpec (l.takeWhile bDigit) 0 1000).1 else e0) (if r = 1 then (numSpec (l.takeWhile bDigit) 0 1000).1 else e1) (if r = 2 then (numSpec (l.takeWhile bDigit) 0 1000).1 else e2)
def shapeSpec (l : List UInt8) : Option (Nat × Int × Int × Int × List UInt8 × List UInt8) :=
 if ¬ l.takeWhile (bIs 60) = [60] then none
 else match shapeLoop 3 (l.dropWhile (bIs 60)) 0 0 0 0 with
  | none => none
  | some (r, e0, e1, e2, l2) =>
   if numB (l2.takeWhile bPart) = false then none
   else if ¬ (l2.dropWhile bPart).takeWhile (bIs 62) = [62] then none
   else if prodN r e0 e1 e2 ≤ 4096 then some (r, e0, e1, e2, l2.takeWhile bPart, (l2.dropWhile bPart).dropWhile (bIs 62))
   else none
structure Desc where
 k : Int
 b : Int
 r : Nat
 e0 : Int
 e1 : Int
 e2 : Int
 el : List UInt8
def descZero : Desc := ⟨0, 0, 0, 0, 0, 0, []⟩
def descSpec (l : List UInt8) : Desc :=
 if 60 < l.length then descZero
 else if (kindSpec l).2.1 = false then descZero
 else if (kindSpec l).1 = 1 then (if (kindSpec l).2.2 = [] then ⟨1, 64, 0, 0, 0, 0, []⟩ else descZero)
 else if (kindSpec l).1 = 2 ∨ (kindSpec l).1 = 3 then
  match shapeSpec (kindSpec l).2.2 with
  | some (r, e0, e1, e2, el, q) => if q = [] then ⟨(kindSpec l).1, 0, r, e0, e1, e2, el⟩ else descZero
  | none => descZero
 else if (kindSpec l).1 = 4 then (if (foreignSpec (kindSpec l).2.2).1 = true ∧ (foreignSpec (kindSpec l).2.2).2 = [] then ⟨4, 0, 0, 0, 0, 0, []⟩ else descZero)
 else if (numSpec ((kindSpec l).2.2.takeWhile bDigit) 1 64).2 = true ∧ (kindSpec l).2.2.dropWhile bDigit = [] then ⟨0, (numSpec ((kindSpec l).2.2.takeWhile bDigit) 1 64).1, 0, 0, 0, 0, []⟩
 else descZero
def ReadPost (s : ByteArray) (w : World) (e : Ending) (w' : World) : Prop :=
 ∃ (k b : Int) (r : Nat) (e0 e1 e2 : Int) (el : ByteArray), e = .returned (.agg #[.int .i64 k, .int .i64 b, .int .i64 r, .int .i64 e0, .int .i64 e1, .int .i64 e2, .string el]) ∧
  descSpec s.data.toList = ⟨k, b, r, e0, e1, e2, el.data.toList⟩ ∧ Below w.heap.size w w'
structure Shp (w0 : World) (bl : Nat) (q : ByteArray) (kd : Int) (r : Nat) (e0 e1 e2 : Int) (el : ByteArray) (wr : World) : Prop where
 lt : bl < w0.heap.size
 box : wr.heap[bl]? = some (.cells #[.string q] 9 (0, 0))
 res : wr.heap[w0.heap.size]? = some (.cells #[.int .i64 0, .int .i64 0, .int .i64 0, .int .i64 0, .int .i64 0, .int .i64 0, .string ⟨#[]⟩] 205 (0, 0))
 dsc : wr.heap[w0.heap.size + 1]? = some (.cells #[.int .i64 kd, .int .i64 0, .int .i64 r, .int .i64 e0, .int .i64 e1, .int .i64 e2, .string el] 205 (0, 0))
 gr : w0.grownBy wr (some bl)
 env : EnvB bl wr
theorem Shp.grown {w0 : World} {bl : Nat} {q q' : ByteArray} {kd : Int} {r : Nat} {e0 e1 e2 : Int} {el : ByteArray} {wr w' : World} (h : Shp w0 bl q kd r e0 e1 e2 el wr)
  (hg : wr.grownBy w' (some bl)) (hb : w'.heap[bl]? = some (.cells #[.string q'] 9 (0, 0))) : Shp w0 bl q' kd r e0 e1 e2 el w' :=
 ⟨h.lt, hb, block_kept h.res hg (by have := h.lt; omega), block_kept h.dsc hg (by have := h.lt; omega), grown_trans h.gr hg, h.env.grown hg (by have := lt_of_block h.box; omega) (Nat.le_refl _)⟩
theorem Shp.below {w0 : World} {bl : Nat} {q : ByteArray} {kd : Int} {r : Nat} {e0 e1 e2 : Int} {el : ByteArray} {wr w' : World} (h : Shp w0 bl q kd r e0 e1 e2 el wr)
  (hb : Below wr.heap.size wr w') : Shp w0 bl q kd r e0 e1 e2 el w' :=
 h.grown ⟨hb.os, hb.tape, hb.output, hb.size, fun k hk _ => hb.block k hk⟩ ((hb.block bl (lt_of_block h.box)).trans h.box)
theorem Shp.alloc {w0 : World} {bl : Nat} {q : ByteArray} {kd : Int} {r : Nat} {e0 e1 e2 : Int} {el : ByteArray} {wr : World} (h : Shp w0 bl q kd r e0 e1 e2 el wr) (o : Obj) : Shp w0 bl q kd r e0 e1 e2 el (wr.alloc o) :=
 h.below ((Below.refl _ _).alloc (Nat.le_refl _) o)
def ShapePost (kd : Int) (bl : Nat) (s : ByteArray) (w : World) (e : Ending) (w' : World) : Prop :=
 (∃ (q : ByteArray), w'.heap[bl]? = some (.cells #[.string q] 9 (0, 0)) ∧ w.grownBy w' (some bl) ∧
  ∃ (r : Nat) (e0 e1 e2 : Int) (el : ByteArray), (e = .returned (.tuple #[.agg #[.int .i64 kd, .int .i64 0, .int .i64 r, .int .i64 e0, .int .i64 e1, .int .i64 e2, .string el], .bool false]) ∧ shapeSpec s.data.toList = none) ∨
   (e = .returned (.tuple #[.agg #[.int .i64 kd, .int .i64 0, .int .i64 r, .int .i64 e0, .int .i64 e1, .int .i64 e2, .string el], .bool true]) ∧ shapeSpec s.data.toList = some (r, e0, e1, e2, el.data.toList, q.data.toList)))
theorem shp_end {w : World} {bl : Nat} {s q : ByteArray} {kd : Int} {r : Nat} {e0 e1 e2 : Int} {el : ByteArray} {wr : World} (h : Shp w bl q kd r e0 e1 e2 el wr) (ok : Bool)
  (hs : (ok = false ∧ shapeSpec s.data.toList = none) ∨ (ok = true ∧ shapeSpec s.data.toList = some (r, e0, e1, e2, el.data.toList, q.data.toList))) :
  ShapePost kd bl s w (.returned (.tuple #[.agg #[.int .i64 kd, .int .i64 0, .int .i64 r, .int .i64 e0, .int .i64 e1, .int .i64 e2, .string el], .bool ok]))
   (((((((wr.setCell ⟨w.heap.size, 0, none⟩ (.int .i64 kd)).setCell ⟨w.heap.size, 1, none⟩ (.int .i64 0)).setCell ⟨w.heap.size, 2, none⟩ (.int .i64 r)).setCell ⟨w.heap.size, 3, none⟩ (.int .i64 e0)).setCell ⟨w.heap.size, 4, none⟩ (.int .i64 e1)).setCell ⟨w.heap.size, 5, none⟩ (.int .i64 e2)).setCell ⟨w.heap.size, 6, none⟩ (.string el)) := by
 refine ⟨q, (set7_other (by have := h.lt; omega)).trans h.box, set7_grown h.gr (Nat.le_refl _), r, e0, e1, e2, el, ?_⟩
 rcases hs with ⟨rfl, hs⟩ | ⟨rfl, hs⟩
 ·exact .inl ⟨rfl, hs⟩
 ·exact .inr ⟨rfl, hs⟩
theorem Shp.set_el {w0 : World} {bl : Nat} {q : ByteArray} {kd : Int} {r : Nat} {e0 e1 e2 : Int} {el el' : ByteArray} {wr : World} (h : Shp w0 bl q kd r e0 e1 e2 el wr) :
  Shp w0 bl q kd r e0 e1 e2 el' (wr.setCell ⟨w0.heap.size + 1, 6, none⟩ (.string el')) := by
 have := h.lt
 refine ⟨h.lt, (heap_setCell_other _ _ _ _ (by dsimp only; omega)).trans h.box, (heap_setCell_other _ _ _ _ (by dsimp only; omega)).trans h.res, ?_, grown_setCell h.gr (by dsimp only; omega), ?_⟩
 ·exact heap_setCell_same _ _ 6 _ _ _ h.dsc
 ·exact h.env.step ((Below.refl _ _).setCell (by dsimp only; omega) _)
theorem Shp.set_ext {w0 : World} {bl : Nat} {q : ByteArray} {kd n : Int} {r : Nat} {e0 e1 e2 : Int} {el : ByteArray} {wr : World} (h : Shp w0 bl q kd r e0 e1 e2 el wr) (hr : r < 3) :
  Shp w0 bl q kd (r + 1) (if r = 0 then n else e0) (if r = 1 then n else e1) (if r = 2 then n else e2) el ((wr.setCell ⟨w0.heap.size + 1, 3 + r, none⟩ (.int .i64 n)).setCell ⟨w0.heap.size + 1, 2, none⟩ (.int .i64 (r + 1 : Nat))) := by
 have := h.lt
 refine ⟨h.lt, ?_, ?_, ?_, grown_setCell (grown_setCell h.gr (by dsimp only; omega)) (by dsimp only; omega), ?_⟩
 ·rw [heap_setCell_other _ _ _ _ (by dsimp only; omega), heap_setCell_other _ _ _ _ (by dsimp only; omega)]; exact h.box
 ·rw [heap_setCell_other _ _ _ _ (by dsimp only; omega), heap_setCell_other _ _ _ _ (by dsimp only; omega)]; exact h.res
 ·have a := heap_setCell_same _ _ (3 + r) _ _ (.int .i64 n) h.dsc
  have b := heap_setCell_same _ _ 2 _ _ (.int .i64 (r + 1 : Nat)) a
  rw [b]
  rcases (show r = 0 ∨ r = 1 ∨ r = 2 by omega) with rfl | rfl | rfl <;> rfl
 ·exact h.env.step (((Below.refl _ _).setCell (by dsimp only; omega) _).setCell (by dsimp only; omega) _)
def boxLen (b : Nat) (w : World) : Nat := match w.heap[b]? with | some (Obj.cells cs _ _) => (match cs[0]? with | some (Value.string q) => q.size | _ => 0) | _ => 0
theorem boxLen_of {b : Nat} {w : World} {q : ByteArray} {t : TypeId} (h : w.heap[b]? = some (.cells #[.string q] t (0, 0))) : boxLen b w = q.size := by
 simp [boxLen, h]
def shapeTail (z : Option (Nat × Int × Int × Int × List UInt8)) : Option (Nat × Int × Int × Int × List UInt8 × List UInt8) :=
 match z with
 | none => none
 | some (r, e0, e1, e2, l2) =>
  if numB (l2.takeWhile bPart) = false then none
  else if ¬ (l2.dropWhile bPart).takeWhile (bIs 62) = [62] then none
  else if prodN r e0 e1 e2 ≤ 4096 then some (r, e0, e1, e2, l2.takeWhile bPart, (l2.dropWhile bPart).dropWhile (bIs 62))
  else none
theorem shape_tail {l : List UInt8} {z : Option (Nat × Int × Int × Int × List UInt8)} (h : l.takeWhile (bIs 60) = [60]) (hz : shapeLoop 3 (l.dropWhile (bIs 60)) 0 0 0 0 = z) : shapeSpec l = shapeTail z := by
 rw [shapeSpec, if_neg (by simpa using h), hz]
 rfl
structure Rnd (w0 : World) (bl : Nat) (kd : Int) (s0 D q : ByteArray) (r : Nat) (e0 e1 e2 : Int) (l : List UInt8) (wr : World) : Prop where
 shp : Shp w0 bl q kd r e0 e1 e2 ⟨#[]⟩ wr
 hr : r ≤ 3
 h0 : 0 ≤ e0 ∧ e0 ≤ 1000
 h1 : 0 ≤ e1 ∧ e1 ≤ 1000
 h2 : 0 ≤ e2 ∧ e2 ≤ 1000
 hD : D.data.toList = l.takeWhile bDigit
 hq : q.data.toList = l.dropWhile bDigit
 hl : l.length ≤ s0.size
 hs : shapeLoop (3 - r) l r e0 e1 e2 = shapeLoop 3 (s0.data.toList.dropWhile (bIs 60)) 0 0 0 0
theorem Rnd.Dsize {w0 : World} {bl : Nat} {kd : Int} {s0 D q : ByteArray} {r : Nat} {e0 e1 e2 : Int} {l : List UInt8} {wr : World} (h : Rnd w0 bl kd s0 D q r e0 e1 e2 l wr) : D.size ≤ s0.size := by
 rw [size_eq, h.hD]; have := takeWhile_len bDigit l; have := h.hl; omega
theorem only_some (x : Int) (w : World) : Calls Tryz.prog 186 #[.int .i32 x] w fun e w' =>
  ∃ bo : Nat, e = .returned (.func (.func 196) #[] #[.pointer (some ⟨bo, 0, none⟩)]) ∧ Hid (w'.cell? ⟨bo, 0, none⟩ = some (.int .i32 x)) ∧ Below w.heap.size w w' :=
 (only_any x w).mono fun e w' ⟨he, hw⟩ => ⟨w.heap.size, he, by rw [← hw]; exact cell_of_one (heap_alloc_new _ _), by rw [← hw]; exact (Below.refl _ _).alloc (Nat.le_refl _) _⟩
theorem number_some (d : ByteArray) (lo hi : Int) (hd : d.size ≤ 60) (w : World) (hE : Env w) :
  Calls Tryz.prog 189 #[.string d, .int .i64 lo, .int .i64 hi] w fun e w' => ∃ (n : Int) (ok : Bool), e = .returned (.tuple #[.int .i64 n, .bool ok]) ∧ Hid (numSpec d.data.toList lo hi = (n, ok)) ∧ Below w.heap.size w w' :=
 (number_any d lo hi hd w hE).mono fun _ _ ⟨he, hb⟩ => ⟨_, _, he, rfl, hb⟩
theorem numSpec_ok {l : List UInt8} {lo hi v : Int} (h : numSpec l lo hi = (v, true)) : lo ≤ v ∧ v ≤ hi := by
 unfold numSpec at h
 split at h
 ·cases h
 ·split at h
  ·split at h
   ·cases h; assumption
   ·cases h
  ·cases h
section
variable {D q r6 q6 : ByteArray} {l : List UInt8} {m r : Nat} {e0 e1 e2 n : Int}
theorem loop_bad (hne : ¬ D.data.toList = []) (hD : D.data.toList = l.takeWhile bDigit) (hn : numSpec D.data.toList 0 1000 = (n, false)) : shapeLoop m l r e0 e1 e2 = none := by
 rw [hD] at hne hn
 unfold shapeLoop
 rw [if_neg hne, hn, if_pos rfl]
theorem loop_nox (hne : ¬ D.data.toList = []) (hD : D.data.toList = l.takeWhile bDigit) (hn : numSpec D.data.toList 0 1000 = (n, true)) (hq : q.data.toList = l.dropWhile bDigit)
  (hr : r6.data.toList = q.data.toList.takeWhile (bIs 120)) (hx : ¬ r6.data.toList = [120]) : shapeLoop m l r e0 e1 e2 = none := by
 rw [hD] at hne hn
 rw [hr, hq] at hx
 unfold shapeLoop
 rw [if_neg hne, hn, if_neg (by simp), if_pos hx]
theorem loop_four (hne : ¬ D.data.toList = []) (hD : D.data.toList = l.takeWhile bDigit) (hn : numSpec D.data.toList 0 1000 = (n, true)) (hq : q.data.toList = l.dropWhile bDigit)
  (hr : r6.data.toList = q.data.toList.takeWhile (bIs 120)) (hx : r6.data.toList = [120]) : shapeLoop (3 - 3) l r e0 e1 e2 = none := by
 rw [hD] at hne hn
 rw [hr, hq] at hx
 unfold shapeLoop
 rw [if_neg hne, hn, if_neg (by simp), if_neg (by simpa using hx)]
 rfl
theorem loop_step (hne : ¬ D.data.toList = []) (hD : D.data.toList = l.takeWhile bDigit) (hn : numSpec D.data.toList 0 1000 = (n, true)) (hq : q.data.toList = l.dropWhile bDigit)
  (hr : r6.data.toList = q.data.toList.takeWhile (bIs 120)) (hx : r6.data.toList = [120]) (hq6 : q6.data.toList = q.data.toList.dropWhile (bIs 120)) :
  shapeLoop (m + 1) l r e0 e1 e2 = shapeLoop m q6.data.toList (r + 1) (if r = 0 then n else e0) (if r = 1 then n else e1) (if r = 2 then n else e2) := by
 rw [hD] at hne hn
 rw [hr, hq] at hx
 rw [hq] at hq6
 conv => lhs; unfold shapeLoop
 rw [if_neg hne, hn, if_neg (by simp), if_neg (by simpa using hx), ← hq6]
theorem loop_done (hne : D.data.toList = []) (hD : D.data.toList = l.takeWhile bDigit) (hq : q.data.toList = l.dropWhile bDigit) : shapeLoop m l r e0 e1 e2 = some (r, e0, e1, e2, q.data.toList) := by
 rw [hD] at hne
 unfold shapeLoop
 rw [if_pos hne, hq]
theorem shorter {p : UInt8 → Bool} {x : UInt8} (hr : r6.data.toList = q.data.toList.takeWhile p) (hq6 : q6.data.toList = q.data.toList.dropWhile p) (hx : r6.data.toList = [x]) : q6.size < q.size := by
 have := congrArg List.length (List.takeWhile_append_dropWhile (p := p) (l := q.data.toList))
 rw [List.length_append, ← hr, ← hq6, hx] at this
 rw [size_eq, size_eq q]
 simp at this
 simp
 omega
end
theorem Rnd.next {w0 : World} {bl : Nat} {kd : Int} {s0 D q r6 q6 : ByteArray} {r : Nat} {e0 e1 e2 n : Int} {l : List UInt8} {wr : World} (R : Rnd w0 bl kd s0 D q r e0 e1 e2 l wr)
  (hne : ¬ D.data.toList = []) (hn : numSpec D.data.toList 0 1000 = (n, true)) (hr6 : r6.data.toList = q.data.toList.takeWhile (bIs 120)) (hq6 : q6.data.toList = q.data.toList.dropWhile (bIs 120)) (hx : r6.data.toList = [120]) (hr : r < 3) :
  ∀ (D8 q8 : ByteArray) (w8 : World), Shp w0 bl q8 kd (r + 1) (if r = 0 then n else e0) (if r = 1 then n else e1) (if r = 2 then n else e2) ⟨#[]⟩ w8 → D8.data.toList = q6.data.toList.takeWhile bDigit → q8.data.toList = q6.data.toList.dropWhile bDigit →
   Rnd w0 bl kd s0 D8 q8 (r + 1) (if r = 0 then n else e0) (if r = 1 then n else e1) (if r = 2 then n else e2) q6.data.toList w8 := by
 intro D8 q8 w8 hS hD hq
 have hb := numSpec_ok hn
 refine ⟨hS, by omega, ?_, ?_, ?_, hD, hq, ?_, ?_⟩
 ·split
  ·exact hb
  ·exact R.h0
 ·split
  ·exact hb
  ·exact R.h1
 ·split
  ·exact hb
  ·exact R.h2
 ·rw [hq6, R.hq]; have := dropWhile_len (bIs 120) (l.dropWhile bDigit); have := dropWhile_len bDigit l; have := R.hl; omega
 ·rw [← R.hs, show 3 - r = (3 - (r + 1)) + 1 from by omega, loop_step hne R.hD hn R.hq hr6 hx hq6]
section
variable {s q el q9 r13 q13 : ByteArray} {r : Nat} {e0 e1 e2 : Int}
theorem tail_nonum (ht : shapeSpec s.data.toList = shapeTail (some (r, e0, e1, e2, q.data.toList))) (hel : el.data.toList = q.data.toList.takeWhile bPart) (hn : numB el.data.toList = false) : shapeSpec s.data.toList = none := by
 rw [hel] at hn
 rw [ht, shapeTail, if_pos hn]
theorem tail_nogt (ht : shapeSpec s.data.toList = shapeTail (some (r, e0, e1, e2, q.data.toList))) (hel : el.data.toList = q.data.toList.takeWhile bPart) (hq9 : q9.data.toList = q.data.toList.dropWhile bPart) (hn : numB el.data.toList = true)
  (hr : r13.data.toList = q9.data.toList.takeWhile (bIs 62)) (hx : ¬ r13.data.toList = [62]) : shapeSpec s.data.toList = none := by
 rw [hel] at hn
 rw [hr, hq9] at hx
 rw [ht, shapeTail, if_neg (by rw [hn]; simp), if_pos hx]
theorem tail_yes (ht : shapeSpec s.data.toList = shapeTail (some (r, e0, e1, e2, q.data.toList))) (hel : el.data.toList = q.data.toList.takeWhile bPart) (hq9 : q9.data.toList = q.data.toList.dropWhile bPart) (hn : numB el.data.toList = true)
  (hr : r13.data.toList = q9.data.toList.takeWhile (bIs 62)) (hx : r13.data.toList = [62]) (hq13 : q13.data.toList = q9.data.toList.dropWhile (bIs 62)) (hc : prodN r e0 e1 e2 ≤ 4096) :
  shapeSpec s.data.toList = some (r, e0, e1, e2, el.data.toList, q13.data.toList) := by
 rw [hr, hq9] at hx
 rw [hq9] at hq13
 rw [hel] at hn
 rw [ht, shapeTail, if_neg (by rw [hn]; simp), if_neg (by simpa using hx), if_pos hc, hel, hq13]
theorem tail_large (ht : shapeSpec s.data.toList = shapeTail (some (r, e0, e1, e2, q.data.toList))) (hel : el.data.toList = q.data.toList.takeWhile bPart) (hq9 : q9.data.toList = q.data.toList.dropWhile bPart) (hn : numB el.data.toList = true)
  (hr : r13.data.toList = q9.data.toList.takeWhile (bIs 62)) (hx : r13.data.toList = [62]) (hc : ¬ prodN r e0 e1 e2 ≤ 4096) : shapeSpec s.data.toList = none := by
 rw [hr, hq9] at hx
 rw [hel] at hn
 rw [ht, shapeTail, if_neg (by rw [hn]; simp), if_neg (by simpa using hx), if_neg hc]
end
theorem kindNum_range (l : List UInt8) : 0 ≤ kindNum l ∧ kindNum l ≤ 4 := by
 unfold kindNum; repeat' split
 all_goals omega
theorem kindSpec_range (l : List UInt8) : 0 ≤ (kindSpec l).1 ∧ (kindSpec l).1 ≤ 4 := by
 unfold kindSpec; split <;> exact kindNum_range _
theorem desc_num {l : List UInt8} {k b : Int} {r : Nat} {e0 e1 e2 : Int} {el : List UInt8} (h : descSpec l = ⟨k, b, r, e0, e1, e2, el⟩) : numB l = decide (0 < b) := by
 obtain ⟨hk0, hk4⟩ := kindSpec_range l
 unfold numB
 unfold descSpec at h
 generalize kindSpec l = z at h hk0 hk4 ⊢
 obtain ⟨k1, ok, q⟩ := z
 simp only at h hk0 hk4 ⊢
 by_cases h60 : 60 < l.length
 ·rw [if_pos h60] at h; cases h; simp; omega
 rw [if_neg h60] at h
 cases ok
 ·rw [if_pos rfl] at h; cases h; simp
 rw [if_neg (by simp)] at h
 by_cases h1 : k1 = 1
 ·rw [if_pos h1] at h
  by_cases hq : q = []
  ·rw [if_pos hq] at h; cases h; simp [h1, hq]; omega
  ·rw [if_neg hq] at h; cases h; simp [h1, hq]
 rw [if_neg h1] at h
 by_cases h2 : k1 = 2 ∨ k1 = 3
 ·rw [if_pos h2] at h
  have hb : b = 0 := by
   split at h
   ·split at h
    ·cases h; rfl
    ·cases h; rfl
   ·cases h; rfl
  subst hb
  have : ¬ k1 = 0 := by omega
  simp [h1, this]
 rw [if_neg h2] at h
 by_cases h4 : k1 = 4
 ·rw [if_pos h4] at h
  have hb : b = 0 := by
   split at h
   ·cases h; rfl
   ·cases h; rfl
  subst hb
  simp [h4]
 rw [if_neg h4] at h
 obtain rfl : k1 = 0 := by omega
 by_cases hn : (numSpec (q.takeWhile bDigit) 1 64).2 = true ∧ q.dropWhile bDigit = []
 ·rw [if_pos hn] at h
  have hv := numSpec_ok (l := q.takeWhile bDigit) (lo := 1) (hi := 64) (v := (numSpec (q.takeWhile bDigit) 1 64).1) (by rw [← hn.1])
  cases h
  rw [hn.1, hn.2]
  simp
  omega
 ·rw [if_neg hn] at h
  cases h
  cases hz : (numSpec (q.takeWhile bDigit) 1 64).2
  ·simp
  ·have : ¬ q.dropWhile bDigit = [] := fun e => hn ⟨hz, e⟩
   simp [this]
set_option maxHeartbeats 4000000 in
set_option maxRecDepth 100000 in
theorem readShape_any (N : Nat) (ih : ∀ x : ByteArray, x.size < N → ∀ w, Env w → Calls Tryz.prog 156 #[.string x] w (ReadPost x w)) (bl : Nat) (s : ByteArray) (hN : s.size < N) (h60 : s.size ≤ 60) (kd : Int) (w : World)
  (hb : w.heap[bl]? = some (.cells #[.string s] 9 (0, 0))) (hE : EnvB bl w) :
  Calls Tryz.prog 187 #[.int .i64 kd, .func (.func 184) #[] #[.pointer (some ⟨bl, 0, none⟩)]] w (ShapePost kd bl s w) := by
 have IH := Lib.hid ih
 clear ih
 have S1 : Shp w bl s kd 0 0 0 0 ⟨#[]⟩ ((w.alloc (.cells #[.int .i64 0, .int .i64 0, .int .i64 0, .int .i64 0, .int .i64 0, .int .i64 0, .string ⟨#[]⟩] 205)).alloc (.cells #[.int .i64 kd, .int .i64 0, .int .i64 0, .int .i64 0, .int .i64 0, .int .i64 0, .string ⟨#[]⟩] 205)) := by
  have hlt := lt_of_block hb
  refine ⟨hlt, ?_, heap_alloc2_old _ _ _, heap_alloc2_new _ _ _, grown_trans (World.grownBy_alloc _ _ _) (World.grownBy_alloc _ _ _), ?_⟩
  ·rw [Below.heap_alloc _ _ _ (by simp; omega), Below.heap_alloc _ _ _ hlt]; exact hb
  ·exact hE.step (((Below.refl _ _).alloc (by omega) _).alloc (by simp; omega) _)
 clear hb hE
 go_enter Tryz.func187, Tryz.ntmps187
 go_wp2_with fail
 refine (only_some 60 _).mono ?_
 rintro e wo2 ⟨bo2, rfl, ho2, hb2⟩
 have So2 := S1.below hb2
 clear hb2
 go_wp2_with fail
 refine (take_only bl _ 60 (by omega) _ _ So2.box ho2.out).mono ?_
 rintro e w2 ⟨r2, q2, rfl, hr2, hq2, hb3, hg3⟩
 have S2 := So2.grown hg3 hb3
 have Hr2 := Lib.hid hr2
 have Hq2 := Lib.hid hq2
 clear hr2 hq2 hb3 hg3 ho2 So2
 clear S1
 cases hx : (r2.toList == [60])
 ·have hfail := Lib.hid (show shapeSpec s.data.toList = none by rw [shapeSpec, if_pos]; rw [← Hr2.out]; exact ne_of_beq_toList hx)
  obtain ⟨c0, c1, c2, c3, c4, c5, c6, hfz⟩ := cells7 S2.dsc
  obtain ⟨d0, d1, d2, d3, d4, d5, d6, hfz2⟩ := cells7 S2.res
  go_wp2_with fail
  refine bodyPost_ret (v := .tuple #[.agg #[.int .i64 kd, .int .i64 0, .int .i64 (0 : Nat), .int .i64 0, .int .i64 0, .int .i64 0, .string ⟨#[]⟩], .bool false]) (results_cell_tmp Tryz.results187 rfl rfl (descVar (set7_block S2.res))) rfl ?_
  exact shp_end S2 false (.inl ⟨rfl, hfail.out⟩)
 ·have hs0 := Lib.hid (show ∀ z, shapeLoop 3 (s.data.toList.dropWhile (bIs 60)) 0 0 0 0 = z → shapeSpec s.data.toList = shapeTail z from fun z hz => shape_tail (by rw [← Hr2.out]; exact eq_of_beq_toList hx) hz)
  go_wp2_with fail
  refine (take_digit bl _ _ S2.box).mono ?_
  rintro e w4 ⟨D, q4, rfl, hr4, hq4, hb4, hg4⟩
  have R4 : Rnd w bl kd s D q4 0 0 0 0 q2.data.toList w4 := ⟨S2.grown hg4 hb4, by omega, by omega, by omega, by omega, hr4, hq4, by rw [Hq2.out, size_eq]; exact dropWhile_len _ _, by rw [Hq2.out]⟩
  clear hr4 hq4 hb4 hg4 S2
  go_wp2_with fail
  go_loopw [7] (fun v wr => ∃ (D q : ByteArray) (r : Nat) (e0 e1 e2 : Int) (l : List UInt8), v = .string D ∧ Rnd w bl kd s D q r e0 e1 e2 l wr) (fun _ wr => boxLen bl wr)
  case atStart => exact ⟨_, _, _, _, _, _, _, rfl, R4⟩
  case round =>
   obtain ⟨D, q, r, e0, e1, e2, l, rfl, R⟩ := hrel
   clear R4
   cases hD : D.toList.isEmpty
   ·have hne := Lib.hid (nonempty_of hD)
    go_wp2_with fail
    refine (number_some D 0 1000 (by have := R.Dsize; omega) wr R.shp.env.here).mono ?_
    rintro e w5 ⟨n, ok, rfl, hn, hb5⟩
    have S5 := R.shp.below hb5
    clear hb5
    cases ok
    ·have hf := Lib.hid ((hs0.out _ (R.hs.symm.trans (loop_bad hne.out R.hD hn.out))).trans rfl)
     obtain ⟨c0, c1, c2, c3, c4, c5, c6, hfz⟩ := cells7 S5.dsc
     obtain ⟨d0, d1, d2, d3, d4, d5, d6, hfz2⟩ := cells7 S5.res
     go_wp2_with fail
     refine bodyPost_ret (v := .tuple #[.agg #[.int .i64 kd, .int .i64 0, .int .i64 (r : Nat), .int .i64 e0, .int .i64 e1, .int .i64 e2, .string ⟨#[]⟩], .bool false]) (results_cell_tmp Tryz.results187 rfl rfl (descVar (set7_block S5.res))) rfl ?_
     exact shp_end S5 false (.inl ⟨rfl, hf.out⟩)
    ·go_wp2_with fail
     refine (only_some 120 _).mono ?_
     rintro e wo6 ⟨bo6, rfl, ho2, hb2⟩
     have So6 := S5.below hb2
     clear hb2
     go_wp2_with fail
     refine (take_only bl _ 120 (by omega) _ _ So6.box ho2.out).mono ?_
     rintro e w6 ⟨r6, q6, rfl, hr6, hq6, hb3, hg3⟩
     have S6 := So6.grown hg3 hb3
     have Hr6 := Lib.hid hr6
     have Hq6 := Lib.hid hq6
     clear hr6 hq6 hb3 hg3 ho2 So6
     cases hx6 : (r6.toList == [120])
     ·have hf := Lib.hid ((hs0.out _ (R.hs.symm.trans (loop_nox hne.out R.hD hn.out R.hq Hr6.out (ne_of_beq_toList hx6)))).trans rfl)
      obtain ⟨c0, c1, c2, c3, c4, c5, c6, hfz⟩ := cells7 S6.dsc
      obtain ⟨d0, d1, d2, d3, d4, d5, d6, hfz2⟩ := cells7 S6.res
      go_wp2_with fail
      refine bodyPost_ret (v := .tuple #[.agg #[.int .i64 kd, .int .i64 0, .int .i64 (r : Nat), .int .i64 e0, .int .i64 e1, .int .i64 e2, .string ⟨#[]⟩], .bool false]) (results_cell_tmp Tryz.results187 rfl rfl (descVar (set7_block S6.res))) rfl ?_
      exact shp_end S6 false (.inl ⟨rfl, hf.out⟩)
     ·have hx6' := Lib.hid (eq_of_beq_toList hx6)
      by_cases hr3 : r = 3
      ·subst hr3
       have hf := Lib.hid ((hs0.out _ (R.hs.symm.trans (loop_four hne.out R.hD hn.out R.hq Hr6.out hx6'.out))).trans rfl)
       obtain ⟨c0, c1, c2, c3, c4, c5, c6, hfz⟩ := cells7 S6.dsc
       obtain ⟨d0, d1, d2, d3, d4, d5, d6, hfz2⟩ := cells7 S6.res
       go_wp2_with fail
       refine bodyPost_ret (v := .tuple #[.agg #[.int .i64 kd, .int .i64 0, .int .i64 (3 : Nat), .int .i64 e0, .int .i64 e1, .int .i64 e2, .string ⟨#[]⟩], .bool false]) (results_cell_tmp Tryz.results187 rfl rfl (descVar (set7_block S6.res))) rfl ?_
       exact shp_end S6 false (.inl ⟨rfl, hf.out⟩)
      ·have hrl : r < 3 := by have := R.hr; omega
       have hstep := Lib.hid (R.next hne.out hn.out Hr6.out Hq6.out hx6'.out hrl)
       have hbl := Lib.hid (show q6.size < q.size from shorter Hr6.out Hq6.out hx6'.out)
       have hbq := Lib.hid R.shp.box
       rcases (show r = 0 ∨ r = 1 ∨ r = 2 by omega) with rfl | rfl | rfl
       ·have S7 : Shp w bl q6 kd 1 n e1 e2 ⟨#[]⟩ ((w6.setCell ⟨w.heap.size + 1, 3, none⟩ (.int .i64 n)).setCell ⟨w.heap.size + 1, 2, none⟩ (.int .i64 1)) := by simpa using S6.set_ext (n := n) hrl
        obtain ⟨c0, c1, c2, c3, c4, c5, c6, hfz⟩ := cells7 S6.dsc
        clear R
        go_wp2_with fail
        refine (take_digit bl _ _ S7.box).mono ?_
        rintro e w8 ⟨D8, q8, rfl, hD8, hq8, hb8, hg8⟩
        have S8 := S7.grown hg8 hb8
        have hq8' := Lib.hid (show q8.size ≤ q6.size by rw [size_eq, size_eq q6, hq8]; exact dropWhile_len _ _)
        have HD8 := Lib.hid hD8
        have HQ8 := Lib.hid hq8
        have HB8 := Lib.hid hb8
        clear hD8 hq8 hb8 hg8 S7 c0 c1 c2 c3 c4 c5 c6 hfz
        go_wp2_with fail
        go_roundw
        case rel => exact ⟨D8, q8, 1, n, e1, e2, q6.data.toList, rfl, hstep.out D8 q8 w8 S8 HD8.out HQ8.out⟩
        case measure => rw [boxLen_of HB8.out, boxLen_of hbq.out]; have := hbl.out; have := hq8'.out; omega
       ·have S7 : Shp w bl q6 kd 2 e0 n e2 ⟨#[]⟩ ((w6.setCell ⟨w.heap.size + 1, 4, none⟩ (.int .i64 n)).setCell ⟨w.heap.size + 1, 2, none⟩ (.int .i64 2)) := by simpa using S6.set_ext (n := n) hrl
        obtain ⟨c0, c1, c2, c3, c4, c5, c6, hfz⟩ := cells7 S6.dsc
        clear R
        go_wp2_with fail
        refine (take_digit bl _ _ S7.box).mono ?_
        rintro e w8 ⟨D8, q8, rfl, hD8, hq8, hb8, hg8⟩
        have S8 := S7.grown hg8 hb8
        have hq8' := Lib.hid (show q8.size ≤ q6.size by rw [size_eq, size_eq q6, hq8]; exact dropWhile_len _ _)
        have HD8 := Lib.hid hD8
        have HQ8 := Lib.hid hq8
        have HB8 := Lib.hid hb8
        clear hD8 hq8 hb8 hg8 S7 c0 c1 c2 c3 c4 c5 c6 hfz
        go_wp2_with fail
        go_roundw
        case rel => exact ⟨D8, q8, 2, e0, n, e2, q6.data.toList, rfl, hstep.out D8 q8 w8 S8 HD8.out HQ8.out⟩
        case measure => rw [boxLen_of HB8.out, boxLen_of hbq.out]; have := hbl.out; have := hq8'.out; omega
       ·have S7 : Shp w bl q6 kd 3 e0 e1 n ⟨#[]⟩ ((w6.setCell ⟨w.heap.size + 1, 5, none⟩ (.int .i64 n)).setCell ⟨w.heap.size + 1, 2, none⟩ (.int .i64 3)) := by simpa using S6.set_ext (n := n) hrl
        obtain ⟨c0, c1, c2, c3, c4, c5, c6, hfz⟩ := cells7 S6.dsc
        clear R
        go_wp2_with fail
        refine (take_digit bl _ _ S7.box).mono ?_
        rintro e w8 ⟨D8, q8, rfl, hD8, hq8, hb8, hg8⟩
        have S8 := S7.grown hg8 hb8
        have hq8' := Lib.hid (show q8.size ≤ q6.size by rw [size_eq, size_eq q6, hq8]; exact dropWhile_len _ _)
        have HD8 := Lib.hid hD8
        have HQ8 := Lib.hid hq8
        have HB8 := Lib.hid hb8
        clear hD8 hq8 hb8 hg8 S7 c0 c1 c2 c3 c4 c5 c6 hfz
        go_wp2_with fail
        go_roundw
        case rel => exact ⟨D8, q8, 3, e0, e1, n, q6.data.toList, rfl, hstep.out D8 q8 w8 S8 HD8.out HQ8.out⟩
        case measure => rw [boxLen_of HB8.out, boxLen_of hbq.out]; have := hbl.out; have := hq8'.out; omega
   ·have hem := Lib.hid (empty_of hD)
    have ht := Lib.hid (hs0.out _ (R.hs.symm.trans (loop_done hem.out R.hD R.hq)))
    have hql := Lib.hid (show q.size ≤ s.size by rw [size_eq, R.hq]; have := dropWhile_len bDigit l; have := R.hl; omega)
    go_wp2_with fail
    refine (take_part bl _ _ R.shp.box).mono ?_
    rintro e w9 ⟨el, q9, rfl, hel, hq9, hb9, hg9⟩
    have S9 := R.shp.grown hg9 hb9
    have hels := Lib.hid (show el.size ≤ q.size by rw [size_eq, size_eq q, hel]; exact takeWhile_len _ _)
    have Hel := Lib.hid hel
    have Hq9 := Lib.hid hq9
    clear hel hq9 hb9 hg9
    obtain ⟨c0, c1, c2, c3, c4, c5, c6, hfz⟩ := cells7 S9.dsc
    have S10 := S9.set_el (el' := el)
    go_wp2_with fail
    refine (IH.out el (by have := hels.out; have := hql.out; omega) _ S10.env.here).mono ?_
    rintro e w11 ⟨k', b', r', x0, x1, x2, el', rfl, hd, hb11⟩
    have S11 := S10.below hb11
    have hnum := Lib.hid (desc_num hd)
    clear hd hb11 S9 S10 c0 c1 c2 c3 c4 c5 c6 hfz
    go_wp2_with fail
    refine (isNumber_any _ _ _ _ _ _ _ _).mono ?_
    rintro e w12 ⟨rfl, hw12⟩
    have S12 : Shp w bl q9 kd r e0 e1 e2 el w12 := by rw [← hw12]; exact S11.alloc _
    clear hw12 S11
    have hpos : decide (0 < b') = true ∨ decide (0 < b') = false := by cases decide (0 < b') <;> simp
    rcases hpos with hpos | hpos
    ·have hnb := Lib.hid (hnum.out.trans hpos)
     go_wp2_with fail
     refine (only_some 62 _).mono ?_
     rintro e wo13 ⟨bo13, rfl, ho2, hb2⟩
     have So13 := S12.below hb2
     clear hb2
     go_wp2_with fail
     refine (take_only bl _ 62 (by omega) _ _ So13.box ho2.out).mono ?_
     rintro e w13 ⟨r13, q13, rfl, hr13, hq13, hb3, hg3⟩
     have S13 := So13.grown hg3 hb3
     have Hr13 := Lib.hid hr13
     have Hq13 := Lib.hid hq13
     clear hr13 hq13 hb3 hg3 ho2 So13
     cases hx13 : (r13.toList == [62])
     ·have hf := Lib.hid (tail_nogt ht.out Hel.out Hq9.out hnb.out Hr13.out (ne_of_beq_toList hx13))
      obtain ⟨c0, c1, c2, c3, c4, c5, c6, hfz⟩ := cells7 S13.dsc
      obtain ⟨d0, d1, d2, d3, d4, d5, d6, hfz2⟩ := cells7 S13.res
      go_wp2_with fail
      refine bodyPost_ret (v := .tuple #[.agg #[.int .i64 kd, .int .i64 0, .int .i64 (r : Nat), .int .i64 e0, .int .i64 e1, .int .i64 e2, .string el], .bool false]) (results_cell_tmp Tryz.results187 rfl rfl (descVar (set7_block S13.res))) rfl ?_
      exact shp_end S13 false (.inl ⟨rfl, hf.out⟩)
     ·have hx13' := Lib.hid (eq_of_beq_toList hx13)
      obtain ⟨c0, c1, c2, c3, c4, c5, c6, hfz⟩ := cells7 S13.dsc
      go_wp2_with fail
      refine (cells_any _ _ _ _ _ r el R.hr R.h0 R.h1 R.h2 _).mono ?_
      rintro e w14 ⟨rfl, hw14⟩
      have S14 : Shp w bl q13 kd r e0 e1 e2 el w14 := by rw [← hw14]; exact S13.alloc _
      clear hw14 S13 c0 c1 c2 c3 c4 c5 c6 hfz
      by_cases hc : prodN r e0 e1 e2 ≤ 4096
      ·have hf := Lib.hid (tail_yes ht.out Hel.out Hq9.out hnb.out Hr13.out hx13'.out Hq13.out hc)
       obtain ⟨c0, c1, c2, c3, c4, c5, c6, hfz⟩ := cells7 S14.dsc
       obtain ⟨d0, d1, d2, d3, d4, d5, d6, hfz2⟩ := cells7 S14.res
       go_wp2_with fail
       refine bodyPost_ret (v := .tuple #[.agg #[.int .i64 kd, .int .i64 0, .int .i64 (r : Nat), .int .i64 e0, .int .i64 e1, .int .i64 e2, .string el], .bool true]) (results_cell_tmp Tryz.results187 rfl rfl (descVar (set7_block S14.res))) rfl ?_
       exact shp_end S14 true (.inr ⟨rfl, hf.out⟩)
      ·have hf := Lib.hid (tail_large ht.out Hel.out Hq9.out hnb.out Hr13.out hx13'.out hc)
       have hcd : decide (prodN r e0 e1 e2 ≤ 4096) = false := decide_eq_false hc
       clear hc
       obtain ⟨c0, c1, c2, c3, c4, c5, c6, hfz⟩ := cells7 S14.dsc
       obtain ⟨d0, d1, d2, d3, d4, d5, d6, hfz2⟩ := cells7 S14.res
       go_wp2_with fail
       refine bodyPost_ret (v := .tuple #[.agg #[.int .i64 kd, .int .i64 0, .int .i64 (r : Nat), .int .i64 e0, .int .i64 e1, .int .i64 e2, .string el], .bool false]) (results_cell_tmp Tryz.results187 rfl rfl (descVar (set7_block S14.res))) rfl ?_
       exact shp_end S14 false (.inl ⟨rfl, hf.out⟩)
    ·have hf := Lib.hid (tail_nonum ht.out Hel.out (hnum.out.trans hpos))
     obtain ⟨c0, c1, c2, c3, c4, c5, c6, hfz⟩ := cells7 S12.dsc
     obtain ⟨d0, d1, d2, d3, d4, d5, d6, hfz2⟩ := cells7 S12.res
     go_wp2_with fail
     refine bodyPost_ret (v := .tuple #[.agg #[.int .i64 kd, .int .i64 0, .int .i64 (r : Nat), .int .i64 e0, .int .i64 e1, .int .i64 e2, .string el], .bool false]) (results_cell_tmp Tryz.results187 rfl rfl (descVar (set7_block S12.res))) rfl ?_
     exact shp_end S12 false (.inl ⟨rfl, hf.out⟩)
end Go.Proofs.YtgimdkgjfenafaaGreatDoor
