/-
  What the package-level variables hold ('Env'), kept by every call that only makes memory; 'number', 'takeName' and 'readForeign' by contracts.
-/
import Derived.Test.YtjkhjflemcljdaaDoorC
import Derived.Test.YtjkhjflemcljdaaDoorShelf
import Derived.WalkSmall
import Derived.BigQuiet
import Derived.Deep.QuietTactic
import Derived.Deep.RegionWith
namespace Go.Proofs.YtjkhjflemcljdaaDoor
open Go.RowKit

structure Env (w : World) : Prop where
  syn : ∃ tp p, w.var? Tryd.prog "strconv.ErrSyntax" = some #[.iface tp p]
  ran : ∃ tp p, w.var? Tryd.prog "strconv.ErrRange" = some #[.iface tp p]
  pow : Lib.TabIs Tryd.prog w "internal/strconv.uint64pow10" .u64 Lib.pow10Tab
  mx : ∃ m : Int, w.var? Tryd.prog "internal/bytealg.MaxLen" = some #[.int .i64 m]

theorem g_syn : Tryd.prog.globalNamed "strconv.ErrSyntax" = some 4 := by kernel_rfl
theorem g_ran : Tryd.prog.globalNamed "strconv.ErrRange" = some 5 := by kernel_rfl
theorem g_pow : Tryd.prog.globalNamed "internal/strconv.uint64pow10" = some 1 := by kernel_rfl
theorem g_mx : Tryd.prog.globalNamed "internal/bytealg.MaxLen" = some 0 := by kernel_rfl

theorem var_lt {P : Program} {w : World} {n : String} {g : Nat} {cs : Array Value} (hg : P.globalNamed n = some g) (h : w.var? P n = some cs) : g < w.heap.size := by
  unfold World.var? at h
  rw [hg] at h
  simp only [Option.bind_some] at h
  split at h
  · exact lt_of_block ‹_›
  · cases h

theorem Env.below {w w' : World} (h : Env w) (hb : Below w.heap.size w w') : Env w' := by
  obtain ⟨⟨t1, p1, h1⟩, ⟨t2, p2, h2⟩, h3, ⟨m, h4⟩⟩ := h
  exact ⟨⟨t1, p1, var?_below hb g_syn (var_lt g_syn h1) h1⟩, ⟨t2, p2, var?_below hb g_ran (var_lt g_ran h2) h2⟩, var?_below hb g_pow (var_lt g_pow h3) h3, ⟨m, var?_below hb g_mx (var_lt g_mx h4) h4⟩⟩

theorem below_of_grown {B : Nat} {w w' : World} {r : Nat} (h : w.grownBy w' (some r)) (hB : B ≤ w.heap.size) (hr : B ≤ r) : Below B w w' :=
  (Below.refl B w).grown h hB (fun k e => by cases e; exact hr)
theorem Env.grown {w0 w w' : World} {r : Nat} (h : Env w0) (hb : Below w0.heap.size w0 w) (hg : w.grownBy w' (some r)) (hr : w0.heap.size ≤ r) : Env w' :=
  h.below (hb.trans (below_of_grown hg hb.size hr))

def AtoiPost (d : ByteArray) (w : World) (e : Ending) (w' : World) : Prop :=
  Below w.heap.size w w' ∧ ((∃ v, Lib.atoiAll d.data.toList = .ok v ∧ e = .returned (.tuple #[.int .i64 v, .nilIface])) ∨
    ((∀ v, Lib.atoiAll d.data.toList ≠ .ok v) ∧ ∃ n t p, e = .returned (.tuple #[.int .i64 n, .iface t p])))

theorem below_freeze {B : Nat} {a w : World} (h : Below B a w) {p : Addr} (hp : B ≤ p.block) (n : Nat) : Below B a (w.freeze p n) := by
  by_cases hn : n = 0
  · rw [World.freeze, if_pos hn]; exact h
  · rw [World.freeze, if_neg hn]
    refine h.trans ⟨rfl, rfl, rfl, by simp, fun k hk => ?_⟩
    show (w.heap.modify p.block _)[k]? = _
    rw [Array.getElem?_modify, if_neg (by omega)]
theorem below_bytes (w : World) (t : TypeId) (k : ByteArray) : Below w.heap.size w (Lib.bytesWorld w t k) :=
  below_freeze ((Below.refl _ _).drew.alloc (Nat.le_refl _) _) (Nat.le_refl _) _

theorem atoi_any (d : ByteArray) (hd : d.size ≤ 60) (w : World) (hE : Env w) :
    Calls Tryd.prog 59 #[.string d] w (AtoiPost d w) := by
  obtain ⟨z, hz⟩ : ∃ z, z = Lib.atoiAll d.data.toList := ⟨_, rfl⟩
  have h := hz.symm
  clear hz
  rcases z with v | _ | _
  · refine (Tryd.strconv_Atoi_ok d (by omega) v h w).mono ?_
    rintro e w' ⟨rfl, hw⟩
    refine ⟨?_, .inl ⟨v, h, rfl⟩⟩
    rcases hw with rfl | ⟨t, rfl⟩
    · exact Below.refl _ _
    · exact below_bytes w _ t
  · obtain ⟨tp, p, hv⟩ := hE.syn
    refine (Any.strconv_Atoi_syntax_var Tryd.laysC172 d (by omega) h tp p w hv).mono ?_
    rintro e w' ⟨N, rfl, _, _, hb⟩
    exact ⟨hb, .inr ⟨fun v => by rw [h]; simp, _, _, _, rfl⟩⟩
  · obtain ⟨tp, p, hv⟩ := hE.ran
    refine (Tryd.strconv_Atoi_range_var d (by omega) h tp p w hv).mono ?_
    rintro e w' ⟨N, rfl, _, _, hb⟩
    exact ⟨hb, .inr ⟨fun v => by rw [h]; simp, _, _, _, rfl⟩⟩

def numSpec (l : List UInt8) (lo hi : Int) : Int × Bool :=
  if 1 < l.length ∧ l.head? = some 48 then (0, false)
  else match Lib.atoiAll l with | .ok v => if lo ≤ v ∧ v ≤ hi then (v, true) else (0, false) | _ => (0, false)

def NumPost (d : ByteArray) (lo hi : Int) (w : World) (e : Ending) (w' : World) : Prop :=
  e = .returned (.tuple #[.int .i64 (numSpec d.data.toList lo hi).1, .bool (numSpec d.data.toList lo hi).2]) ∧ Below w.heap.size w w'

theorem numPost_of {d : ByteArray} {lo hi v : Int} {ok : Bool} {w w' : World} (h : numSpec d.data.toList lo hi = (v, ok)) (hb : Below w.heap.size w w') :
    NumPost d lo hi w (.returned (.tuple #[.int .i64 v, .bool ok])) w' := ⟨by rw [h], hb⟩

theorem head_at (d : ByteArray) (h : 0 < d.size) : d.data.toList.head? = some (d[0]'h) := by
  have : 0 < d.data.toList.length := by simpa using h
  rw [List.head?_eq_getElem?, List.getElem?_eq_getElem this]
  rfl

theorem numSpec_zero {d : ByteArray} {lo hi : Int} (h1 : 1 < d.size) (h0 : (((d[0]'(by omega)).toNat : Int) == 48) = true) : numSpec d.data.toList lo hi = (0, false) := by
  have e : d.data.toList.head? = some 48 := by
    rw [head_at d (by omega)]
    simp at h0
    exact congrArg some (UInt8.toNat_inj.1 (by simpa using (by omega : (d[0]'(by omega)).toNat = 48)))
  rw [numSpec, if_pos ⟨by simpa using h1, e⟩]
theorem numSpec_else {d : ByteArray} {lo hi : Int} (h : 1 < d.size → ∃ hp : 0 < d.size, (((d[0]'hp).toNat : Int) == 48) = false) :
    numSpec d.data.toList lo hi = match Lib.atoiAll d.data.toList with | .ok v => if lo ≤ v ∧ v ≤ hi then (v, true) else (0, false) | _ => (0, false) := by
  rw [numSpec, if_neg]
  rintro ⟨h1, h2⟩
  obtain ⟨hp, h0⟩ := h (by simpa using h1)
  rw [head_at d hp] at h2
  have : d[0]'hp = 48 := Option.some.inj h2
  rw [this] at h0
  simp at h0

set_option maxHeartbeats 400000 in
theorem number_any (d : ByteArray) (lo hi : Int) (hd : d.size ≤ 60) (w : World) (hE : Env w) :
    Calls Tryd.prog 46 #[.string d, .int .i64 lo, .int .i64 hi] w (NumPost d lo hi w) := by
  have part : (1 < d.size ∧ ∃ h : 0 < d.size, (((d[0]'h).toNat : Int) == 48) = true) ∨ (1 < d.size ∧ ∃ h : 0 < d.size, (((d[0]'h).toNat : Int) == 48) = false) ∨ ¬ 1 < d.size := by
    by_cases h1 : 1 < d.size
    · cases h0 : (((d[0]'(by omega)).toNat : Int) == 48)
      · exact .inr (.inl ⟨h1, by omega, h0⟩)
      · exact .inl ⟨h1, by omega, h0⟩
    · exact .inr (.inr h1)
  rcases part with ⟨h1, hp, h0⟩ | hrest
  · have hs := Lib.hid (numSpec_zero (lo := lo) (hi := hi) h1 h0)
    go_enter Tryd.func46, Tryd.ntmps46
    go_wp2
    go_ret2
    exact numPost_of hs.out (Below.refl _ _)
  · have hs := Lib.hid (numSpec_else (d := d) (lo := lo) (hi := hi) (by
      rcases hrest with ⟨_, h⟩ | h
      · exact fun _ => h
      · exact fun h' => absurd h' h))
    rcases hrest with ⟨h1, hp, h0⟩ | h1
    all_goals
      go_enter Tryd.func46, Tryd.ntmps46
      go_wp2_with fail
      refine (atoi_any d hd w hE).mono ?_
      rintro e w1 ⟨hb, ⟨v, hv, rfl⟩ | ⟨hv, n, t, p, rfl⟩⟩
      · rw [hv] at hs
        by_cases hlo : lo ≤ v
        · by_cases hhi : v ≤ hi
          · go_wp2_with fail
            go_ret2
            exact numPost_of (hs.out.trans (if_pos ⟨hlo, hhi⟩)) hb
          · go_wp2_with fail
            go_ret2
            exact numPost_of (hs.out.trans (if_neg (fun h => by omega))) hb
        · go_wp2_with fail
          go_ret2
          exact numPost_of (hs.out.trans (if_neg (fun h => by omega))) hb
      · have hs2 : Hid (numSpec d.data.toList lo hi = (0, false)) := by
          rw [hs.out]
          cases hz : Lib.atoiAll d.data.toList with
          | ok v => exact absurd hz (hv v)
          | _ => rfl
        clear hv
        go_wp2_with fail
        go_ret2
        exact numPost_of hs2.out hb

/-- A name at the front: whether there is one, and what is left. -/
def nameSpec (l : List UInt8) : Bool × List UInt8 :=
  ((match l.takeWhile bPart with | [] => false | c :: _ => bLetter c), l.dropWhile bPart)

def NamePost (bl : Nat) (s : ByteArray) (w : World) (e : Ending) (w' : World) : Prop :=
  ∃ (ok : Bool) (q : ByteArray), e = .returned (.bool ok) ∧ nameSpec s.data.toList = (ok, q.data.toList) ∧ w'.heap[bl]? = some (.cells #[.string q] 9 (0, 0)) ∧ w.grownBy w' (some bl)

theorem namePost_of {bl : Nat} {s r q : ByteArray} {w w' : World} {ok : Bool} (hr : r.data.toList = s.data.toList.takeWhile bPart) (hq : q.data.toList = s.data.toList.dropWhile bPart)
    (hok : (match r.data.toList with | [] => false | c :: _ => bLetter c) = ok) (hb : w'.heap[bl]? = some (.cells #[.string q] 9 (0, 0))) (hg : w.grownBy w' (some bl)) : NamePost bl s w (.returned (.bool ok)) w' :=
  ⟨ok, q, rfl, by rw [nameSpec, ← hr, ← hq, hok], hb, hg⟩
theorem name_head {r : ByteArray} (h : 0 < r.size) : (match r.data.toList with | [] => false | c :: _ => bLetter c) = chLetter ((r[0]'h).toNat : Int) := by
  have := head_at r h
  cases hl : r.data.toList with
  | nil => rw [hl] at this; cases this
  | cons c l =>
    rw [hl] at this
    have e : c = r[0]'h := Option.some.inj this
    rw [← e]; rfl

set_option maxHeartbeats 400000 in
theorem takeName_any (bl : Nat) (s : ByteArray) (w : World) (hb : w.heap[bl]? = some (.cells #[.string s] 9 (0, 0))) :
    Calls Tryd.prog 58 #[.func (.func 41) #[] #[.pointer (some ⟨bl, 0, none⟩)]] w (NamePost bl s w) := by
  go_enter Tryd.func58, Tryd.ntmps58
  go_wp2_with fail
  refine (take_part bl s _ hb).mono ?_
  clear hb
  rintro e w1 ⟨r, q, rfl, hr, hq, hb, hg⟩
  have Hr := Lib.hid hr
  have Hq := Lib.hid hq
  have Hb := Lib.hid hb
  clear hr hq hb
  cases hre : r.toList.isEmpty
  · have h0 := nonempty_of hre
    have hpos : 0 < r.size := by
      rw [size_eq]; exact List.length_pos_iff.2 h0
    clear h0
    have hr0 : ((r[0]'hpos).toNat : Int) < 256 := by have := (r[0]'hpos).toNat_lt; omega
    go_wp2_with fail
    refine (isLetter_any _ _).mono ?_
    rintro e w2 ⟨rfl, rfl⟩
    go_wp2_with fail
    go_ret
    exact namePost_of Hr.out Hq.out (name_head hpos) Hb.out hg
  · have h0 := Lib.hid (empty_of hre)
    go_wp2_with fail
    go_ret
    exact namePost_of Hr.out Hq.out (by rw [h0.out]) Hb.out hg

/-- A foreign type behind its first character: whether there is one, and what is left. -/
def foreignSpec (l : List UInt8) : Bool × List UInt8 :=
  let a := nameSpec l
  if a.1 = false then (false, a.2)
  else if a.2.takeWhile (bIs 46) = [46] then nameSpec (a.2.dropWhile (bIs 46)) else (false, a.2.dropWhile (bIs 46))

def ForeignPost (bl : Nat) (s : ByteArray) (w : World) (e : Ending) (w' : World) : Prop :=
  ∃ (ok : Bool) (q : ByteArray), e = .returned (.tuple #[.agg #[.int .i64 4, .int .i64 0, .int .i64 0, .int .i64 0, .int .i64 0, .int .i64 0, .string ⟨#[]⟩], .bool ok]) ∧ foreignSpec s.data.toList = (ok, q.data.toList) ∧
    w'.heap[bl]? = some (.cells #[.string q] 9 (0, 0)) ∧ w.grownBy w' (some bl)

/-- What is known of a block that lay there, behind steps that wrote another block. -/
theorem block_kept {w w' : World} {b r : Nat} {o : Obj} (h : w.heap[b]? = some o) (hg : w.grownBy w' (some r)) (hne : b ≠ r) : w'.heap[b]? = some o :=
  (hg.block b (lt_of_block h) (fun e => hne (by cases e; rfl))).trans h

theorem fresh_set {w0 w : World} {r b : Nat} {a : Addr} {v : Value} (hg : w0.grownBy w (some r)) (ha : a.block = b) (hb : w0.heap.size ≤ b) : w0.grownBy (w.setCell a v) (some r) :=
  ⟨hg.os, hg.tape, hg.output, by have := hg.size; simpa [World.setCell] using this, fun k hk hne => by
    rw [Below.heap_setCell _ _ _ _ (by omega)]; exact hg.block k hk hne⟩

/-- A struct's block: its seven cells, none frozen. -/
theorem cells7 {w : World} {b : Nat} {t : TypeId} {v0 v1 v2 v3 v4 v5 v6 : Value} (h : w.heap[b]? = some (.cells #[v0, v1, v2, v3, v4, v5, v6] t (0, 0))) :
    w.cell? ⟨b, 0, none⟩ = some v0 ∧ w.cell? ⟨b, 1, none⟩ = some v1 ∧ w.cell? ⟨b, 2, none⟩ = some v2 ∧ w.cell? ⟨b, 3, none⟩ = some v3 ∧ w.cell? ⟨b, 4, none⟩ = some v4 ∧ w.cell? ⟨b, 5, none⟩ = some v5 ∧ w.cell? ⟨b, 6, none⟩ = some v6 ∧
      ∀ j, w.frozen? ⟨b, j, none⟩ = false := by
  refine ⟨?_, ?_, ?_, ?_, ?_, ?_, ?_, fun j => ?_⟩ <;> simp [World.cell?, World.frozen?, h]

/-- A store of a whole struct, cell by cell. -/
theorem setCell_size (w : World) (a : Addr) (v : Value) : (w.setCell a v).heap.size = w.heap.size := by simp [World.setCell]
theorem set7_block {w : World} {b : Nat} {t : TypeId} {v0 v1 v2 v3 v4 v5 v6 u0 u1 u2 u3 u4 u5 u6 : Value} (h : w.heap[b]? = some (.cells #[v0, v1, v2, v3, v4, v5, v6] t (0, 0))) :
    (((((((w.setCell ⟨b, 0, none⟩ u0).setCell ⟨b, 1, none⟩ u1).setCell ⟨b, 2, none⟩ u2).setCell ⟨b, 3, none⟩ u3).setCell ⟨b, 4, none⟩ u4).setCell ⟨b, 5, none⟩ u5).setCell ⟨b, 6, none⟩ u6).heap[b]? = some (.cells #[u0, u1, u2, u3, u4, u5, u6] t (0, 0)) := by
  have h0 := heap_setCell_same _ b 0 _ t u0 h
  have h1 := heap_setCell_same _ b 1 _ t u1 h0
  have h2 := heap_setCell_same _ b 2 _ t u2 h1
  have h3 := heap_setCell_same _ b 3 _ t u3 h2
  have h4 := heap_setCell_same _ b 4 _ t u4 h3
  have h5 := heap_setCell_same _ b 5 _ t u5 h4
  have h6 := heap_setCell_same _ b 6 _ t u6 h5
  rw [h6]
  rfl
theorem descVar {w : World} {b : Nat} {v0 v1 v2 v3 v4 v5 v6 : Value} (h : w.heap[b]? = some (.cells #[v0, v1, v2, v3, v4, v5, v6] 50 (0, 0))) :
    (loadVar 50 ⟨b, 0, none⟩).run Tryd.prog w = .ok (.agg #[v0, v1, v2, v3, v4, v5, v6]) w :=
  run_loadVar_row w b _ _ _ _ _ h Tryd.underlying50 rfl (by kernel_rfl)
theorem set7_other {w : World} {b k : Nat} {u0 u1 u2 u3 u4 u5 u6 : Value} (h : k ≠ b) :
    (((((((w.setCell ⟨b, 0, none⟩ u0).setCell ⟨b, 1, none⟩ u1).setCell ⟨b, 2, none⟩ u2).setCell ⟨b, 3, none⟩ u3).setCell ⟨b, 4, none⟩ u4).setCell ⟨b, 5, none⟩ u5).setCell ⟨b, 6, none⟩ u6).heap[k]? = w.heap[k]? := by
  rw [heap_setCell_other _ _ _ _ h, heap_setCell_other _ _ _ _ h, heap_setCell_other _ _ _ _ h, heap_setCell_other _ _ _ _ h, heap_setCell_other _ _ _ _ h, heap_setCell_other _ _ _ _ h, heap_setCell_other _ _ _ _ h]
theorem grown_setCell {w0 w : World} {a : Addr} {r : Option Nat} {v : Value} (hg : w0.grownBy w r) (hb : w0.heap.size ≤ a.block) : w0.grownBy (w.setCell a v) r := by
  refine ⟨hg.os, hg.tape, hg.output, ?_, fun k hk hne => ?_⟩
  · rw [setCell_size]; exact hg.size
  · rw [heap_setCell_other _ _ _ _ (by omega)]; exact hg.block k hk hne
theorem set7_grown {w0 w : World} {b : Nat} {r : Option Nat} {u0 u1 u2 u3 u4 u5 u6 : Value} (hg : w0.grownBy w r) (hb : w0.heap.size ≤ b) :
    w0.grownBy (((((((w.setCell ⟨b, 0, none⟩ u0).setCell ⟨b, 1, none⟩ u1).setCell ⟨b, 2, none⟩ u2).setCell ⟨b, 3, none⟩ u3).setCell ⟨b, 4, none⟩ u4).setCell ⟨b, 5, none⟩ u5).setCell ⟨b, 6, none⟩ u6) r :=
  grown_setCell (grown_setCell (grown_setCell (grown_setCell (grown_setCell (grown_setCell (grown_setCell hg hb) hb) hb) hb) hb) hb) hb
theorem results_cell_tmp {P : Program} {fn : Func} {a j : Nat} {T : TypeId} {tmps : Array Value} {w : World} {b : Nat} {v x : Value} (hr : fn.results = #[.cell a T, .tmp j]) (ha : tmps.getD a undef = .pointer (some ⟨b, 0, none⟩)) (hj : tmps.getD j undef = x)
    (hl : (loadVar T ⟨b, 0, none⟩).run P w = .ok v w) : (results fn tmps).run P w = .ok (.tuple #[v, x]) w := by
  simp only [results, hr]
  rw [Array.getD_eq_getD_getElem?] at ha hj
  simp [ha, hj, hl, asAddr, Result.andThen]
theorem results_cell {P : Program} {fn : Func} {a : Nat} {T : TypeId} {tmps : Array Value} {w : World} {b : Nat} {v : Value} (hr : fn.results = #[.cell a T]) (ha : tmps.getD a undef = .pointer (some ⟨b, 0, none⟩))
    (hl : (loadVar T ⟨b, 0, none⟩).run P w = .ok v w) : (results fn tmps).run P w = .ok v w := by
  simp only [results, hr]
  rw [Array.getD_eq_getD_getElem?] at ha
  simp [ha, hl, asAddr]

theorem eq_of_beq_toList {r : ByteArray} {l : List UInt8} (h : (r.toList == l) = true) : r.data.toList = l := by rw [← toList_data]; simpa using h
theorem ne_of_beq_toList {r : ByteArray} {l : List UInt8} (h : (r.toList == l) = false) : ¬ r.data.toList = l := by rw [← toList_data]; simpa using h
theorem foreign_no {s q1 r3 q3 : ByteArray} (h1 : nameSpec s.data.toList = (true, q1.data.toList)) (h3 : r3.data.toList = q1.data.toList.takeWhile (bIs 46)) (h3q : q3.data.toList = q1.data.toList.dropWhile (bIs 46))
    (hd : (r3.toList == [46]) = false) : foreignSpec s.data.toList = (false, q3.data.toList) := by
  have := ne_of_beq_toList hd
  rw [h3] at this
  simp only [foreignSpec, h1]
  rw [if_neg (by simp), if_neg this, h3q]
theorem foreign_yes {s q1 r3 q3 q4 : ByteArray} {ok : Bool} (h1 : nameSpec s.data.toList = (true, q1.data.toList)) (h3 : r3.data.toList = q1.data.toList.takeWhile (bIs 46)) (h3q : q3.data.toList = q1.data.toList.dropWhile (bIs 46))
    (hd : (r3.toList == [46]) = true) (h4 : nameSpec q3.data.toList = (ok, q4.data.toList)) : foreignSpec s.data.toList = (ok, q4.data.toList) := by
  have := eq_of_beq_toList hd
  rw [h3] at this
  simp only [foreignSpec, h1]
  rw [if_neg (by simp), if_pos this, ← h3q, h4]

set_option maxHeartbeats 400000 in
theorem readForeign_any (bl : Nat) (s : ByteArray) (w : World) (hb : w.heap[bl]? = some (.cells #[.string s] 9 (0, 0))) :
    Calls Tryd.prog 45 #[.func (.func 41) #[] #[.pointer (some ⟨bl, 0, none⟩)]] w (ForeignPost bl s w) := by
  have hlt := lt_of_block hb
  have hba : ∀ o, Hid ((w.alloc o).heap[bl]? = some (.cells #[.string s] 9 (0, 0))) := fun o =>
    (Below.heap_alloc _ _ _ (lt_of_block hb)).trans hb
  clear hb
  go_enter Tryd.func45, Tryd.ntmps45
  go_wp2_with fail
  refine (takeName_any bl s _ (hba _).out).mono ?_
  rintro e w1 ⟨ok1, q1, rfl, h1, hb1, hg1⟩
  have H1 := Lib.hid h1
  have Hb1 := Lib.hid hb1
  clear h1 hb1
  have hgw1 : Hid (w.grownBy w1 (some bl)) := grown_trans (World.grownBy_alloc _ _ _) hg1
  have hr1 := block_kept (heap_alloc_new _ _) hg1 (by omega)
  obtain ⟨c0, c1, c2, c3, c4, c5, c6, hfz⟩ := cells7 hr1
  clear hg1
  have Hr1 := Lib.hid hr1
  clear hr1
  cases ok1
  · go_wp2_with fail
    refine bodyPost_ret (v := .tuple #[.agg #[.int .i64 4, .int .i64 0, .int .i64 0, .int .i64 0, .int .i64 0, .int .i64 0, .string ⟨#[]⟩], .bool false]) (results_cell_tmp Tryd.results45 rfl rfl (descVar (set7_block Hr1.out))) rfl ?_
    exact ⟨_, q1, rfl, by rw [foreignSpec, H1.out]; rfl, (set7_other (by omega)).trans Hb1.out, set7_grown hgw1.out (Nat.le_refl _)⟩
  · go_wp2_with fail
    refine (only_any 46 _).mono ?_
    rintro e w2 ⟨rfl, hw2⟩
    have hb2 : w2.heap[bl]? = some (.cells #[.string q1] 9 (0, 0)) := by rw [← hw2]; exact (Below.heap_alloc _ _ _ (lt_of_block Hb1.out)).trans Hb1.out
    have ho2 : w2.cell? ⟨w1.heap.size, 0, none⟩ = some (.int .i32 46) := by rw [← hw2]; simp
    have hg2 : w1.grownBy w2 (some bl) := by rw [← hw2]; exact World.grownBy_alloc _ _ _
    have hgw2 : Hid (w.grownBy w2 (some bl)) := grown_trans hgw1.out hg2
    have hr2 := block_kept Hr1.out hg2 (by omega)
    clear hw2 c0 c1 c2 c3 c4 c5 c6 hfz hg2
    have Hr2 := Lib.hid hr2
    clear hr2
    go_wp2_with fail
    refine (take_only bl w1.heap.size 46 (by omega) q1 _ hb2 ho2).mono ?_
    rintro e w3 ⟨r3, q3, rfl, hr3, hq3, hb3, hg3⟩
    have H3 := Lib.hid hr3
    have H3q := Lib.hid hq3
    have Hb3 := Lib.hid hb3
    clear hr3 hq3 hb3 hb2 ho2
    have hgw3 : Hid (w.grownBy w3 (some bl)) := grown_trans hgw2.out hg3
    have hr3 := block_kept Hr2.out hg3 (by omega)
    obtain ⟨c0, c1, c2, c3, c4, c5, c6, hfz⟩ := cells7 hr3
    have Hr3 := Lib.hid hr3
    clear hg3 hr3
    cases hdot : (r3.toList == [46])
    · go_wp2_with fail
      refine bodyPost_ret (v := .tuple #[.agg #[.int .i64 4, .int .i64 0, .int .i64 0, .int .i64 0, .int .i64 0, .int .i64 0, .string ⟨#[]⟩], .bool false]) (results_cell_tmp Tryd.results45 rfl rfl (descVar (set7_block Hr3.out))) rfl ?_
      exact ⟨_, q3, rfl, foreign_no H1.out H3.out H3q.out hdot, (set7_other (by omega)).trans Hb3.out, set7_grown hgw3.out (Nat.le_refl _)⟩
    · clear c0 c1 c2 c3 c4 c5 c6 hfz
      go_wp2_with fail
      refine (takeName_any bl q3 _ Hb3.out).mono ?_
      rintro e w4 ⟨ok4, q4, rfl, h4, hb4, hg4⟩
      have H4 := Lib.hid h4
      have Hb4 := Lib.hid hb4
      have hgw4 : Hid (w.grownBy w4 (some bl)) := grown_trans hgw3.out hg4
      have hr4 := block_kept Hr3.out hg4 (by omega)
      obtain ⟨c0, c1, c2, c3, c4, c5, c6, hfz⟩ := cells7 hr4
      have Hr4 := Lib.hid hr4
      clear h4 hb4 hg4 hr4
      go_wp2_with fail
      refine bodyPost_ret (v := .tuple #[.agg #[.int .i64 4, .int .i64 0, .int .i64 0, .int .i64 0, .int .i64 0, .int .i64 0, .string ⟨#[]⟩], .bool ok4]) (results_cell_tmp Tryd.results45 rfl rfl (descVar (set7_block Hr4.out))) rfl ?_
      exact ⟨_, q4, rfl, foreign_yes H1.out H3.out H3q.out hdot H4.out, (set7_other (by omega)).trans Hb4.out, set7_grown hgw4.out (Nat.le_refl _)⟩
end Go.Proofs.YtjkhjflemcljdaaDoor
