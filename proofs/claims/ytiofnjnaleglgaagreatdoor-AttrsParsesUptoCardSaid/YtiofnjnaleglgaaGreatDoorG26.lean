/-
  Texts of mine in one file: AtK, AtQ, AtU.
-/
import Derived.Test.YtiofnjnaleglgaaGreatDoorG09
import Derived.Test.YtiofnjnaleglgaaGreatDoorG24
import Derived.Test.YtiofnjnaleglgaaGreatDoorG25
import Derived.Test.YtiofnjnaleglgaaGreatDoorG08
import Derived.WalkMore
/-
  A strings.Builder in a block of its own while a call goes on; a range over a string whose iterator lies anywhere.
-/
namespace Go.Proofs.YtiofnjnaleglgaaGreatDoor
open Go.RowKit

/-- The builder in block b has taken l since the call began in w. -/
structure Bld (w : World) (b : Nat) (l : List UInt8) (W : World) : Prop where
  bld : Lib.IsBuilder 116 5 b b (Lib.byteCells l) W
  le : w.heap.size ≤ b
  below : Below w.heap.size w W
  lt : b < W.heap.size

theorem Bld.made {w W : World} (hb : Below w.heap.size w W) : Bld w W.heap.size [] (W.alloc (.cells #[.pointer none, .slice none 0 0] 116)) :=
  ⟨.inl ⟨Nat.le_refl _, .slice none 0 0, heap_alloc_new _ _, World.ownsRow_nil _ _ _ _, by simp [Value.ownBlock]⟩, hb.size, hb.alloc hb.size _, by simp⟩

section
variable {w W W' : World} {b : Nat} {l : List UInt8}
theorem Bld.str (h : Bld w b l W) (s : ByteArray) (hs : l.length + s.size ≤ 140737488355328) :
    Calls Tryz.prog 77 #[.pointer (some ⟨b, 0, none⟩), .string s] W fun e W' => e = .returned (.tuple #[.int .i64 s.size, .nilIface]) ∧ Bld w b (l ++ s.data.toList) W' ∧ Below b W W' ∧ KeepsOthers W W' :=
  (writeString_any _ _ _ s W h.bld (by rw [Lib.byteCells_length]; exact hs) (Nat.le_of_lt h.lt)).mono fun e W' ⟨he, hb, hbl, hko, _⟩ =>
    ⟨he, ⟨.inr (by rw [Lib.byteCells_append]; exact hb), h.le, h.below.trans (hbl.mono h.le), by have := h.lt; have := hbl.size; omega⟩, hbl, hko⟩
theorem Bld.byte (h : Bld w b l W) (c : UInt8) (n : Int) (hc : n = (c.toNat : Int)) (hs : l.length + 1 ≤ 140737488355328) :
    Calls Tryz.prog 139 #[.pointer (some ⟨b, 0, none⟩), .int .u8 n] W fun e W' => e = .returned .nilIface ∧ Bld w b (l ++ [c]) W' ∧ Below b W W' ∧ KeepsOthers W W' :=
  (writeByte_any _ _ _ n W h.bld (by rw [Lib.byteCells_length]; exact hs) (Nat.le_of_lt h.lt)).mono fun e W' ⟨he, hb, hbl, hko, _⟩ =>
    ⟨he, ⟨.inr (by rw [Lib.byteCells_append]; subst hc; exact hb), h.le, h.below.trans (hbl.mono h.le), by have := h.lt; have := hbl.size; omega⟩, hbl, hko⟩
theorem Bld.same (h : Bld w b l W) (hs : W.heap.size ≤ W'.heap.size) (hB : Below w.heap.size w W') (hk : ∀ (k : Nat) (cs : Array Value) (t : TypeId) (fr : Nat × Nat), W.heap[k]? = some (.cells cs t fr) → W'.heap[k]? = some (.cells cs t fr)) : Bld w b l W' := by
  have hown : ∀ {p : Value}, Lib.BuilderAt 116 5 b b p (Lib.byteCells l) W → Lib.BuilderAt 116 5 b b p (Lib.byteCells l) W' := by
    rintro p ⟨hB, v, hv, ho, hne⟩
    refine ⟨hB, v, hk _ _ _ _ hv, ⟨ho.1, ?_⟩, hne⟩
    rcases ho.2 with h | ⟨g, c', cur, hv, hb, hg, hr⟩
    · exact .inl h
    · exact .inr ⟨g, c', cur, hv, hb, hk _ _ _ _ hg, hr⟩
  exact ⟨h.bld.elim (fun h => .inl (hown h)) (fun h => .inr (hown h)), h.le, hB, by have := h.lt; omega⟩
theorem Bld.other (h : Bld w b l W) (hb : Below W.heap.size W W') : Bld w b l W' :=
  h.same hb.size (h.below.trans (hb.mono h.below.size)) fun _ _ _ _ hk => (hb.block _ (lt_of_block hk)).trans hk
theorem Bld.alloc (h : Bld w b l W) (o : Obj) : Bld w b l (W.alloc o) := h.other ((Below.refl _ _).alloc (Nat.le_refl _) _)
theorem Bld.out (h : Bld w b l W) :
    Calls Tryz.prog 78 #[.pointer (some ⟨b, 0, none⟩)] W fun e W' => e = .returned (.string ⟨l.toArray⟩) ∧ Below w.heap.size w W' :=
  (Tryz.Builder_String_any_k _ _ l W (Lib.IsBuilderF.of h.bld) (Nat.le_of_lt h.lt)).mono fun _ _ ⟨he, _, hb, _⟩ => ⟨he, h.below.trans (hb.mono h.le)⟩
end

/-- One step of a range over a string, wherever the iterator lies. -/
theorem run_next_at (W : World) (r : Nat) (s : ByteArray) (pos : Nat) (ty : TypeId) (hr : W.heap[r]? = some (.stringIter s pos)) (h : pos < s.size) :
    (Instr.next (.pointer (some ⟨r, 0, none⟩)) true ty).run Tryz.prog W = .ok (.tuple #[.bool true, .int .i64 pos, .int .i32 (Utf8.decode s pos).1]) (W.putObj r (.stringIter s (pos + (Utf8.decode s pos).2))) := by
  simp only [Instr.next, getObj, setObj, Sem.run_bind, Sem.run, hr, Result.andThen, h, if_true]
  simp [goInt, World.putObj]
theorem run_next_over (W : World) (r : Nat) (s : ByteArray) (pos : Nat) (ty : TypeId) (hr : W.heap[r]? = some (.stringIter s pos)) (h : ¬ pos < s.size) :
    (Instr.next (.pointer (some ⟨r, 0, none⟩)) true ty).run Tryz.prog W = .ok (.tuple #[.bool false]) W := by
  simp [Instr.next, getObj, Sem.run, hr, h]
end Go.Proofs.YtiofnjnaleglgaaGreatDoor

/-
  'quoted', 'inside' and 'unquoted' by contracts: a text is written, and what is written is read back.
-/
namespace Go.Proofs.YtiofnjnaleglgaaGreatDoor
open Go.RowKit

theorem off_le (t : List UInt8) (m : Nat) : ((t.take m).flatMap quoteB).length ≤ 4 * t.length := by
  have h1 := quotes_len (t.take m)
  have h2 : (t.take m).length ≤ t.length := by rw [List.length_take]; omega
  omega
theorem take_flat {t : List UInt8} {m : Nat} {c : UInt8} (h : t[m]? = some c) : (t.take (m + 1)).flatMap quoteB = (t.take m).flatMap quoteB ++ quoteB c := by
  rw [List.take_add_one, h, List.flatMap_append]
  simp

set_option maxHeartbeats 1000000 in
set_option maxRecDepth 100000 in
theorem quoted_any (t : ByteArray) (ht : t.size ≤ 1000000) (w : World) :
    Calls Tryz.prog 121 #[.string t] w fun e w' => e = .returned (.string ⟨(quoteL t.data.toList).toArray⟩) ∧ Below w.heap.size w w' := by
  have B0 := Lib.hid (Bld.made (Below.refl w.heap.size w))
  go_enter Tryz.func121, Tryz.ntmps121
  go_wp2_with fail
  refine (B0.out.str ⟨#[34]⟩ (by decide)).mono ?_
  rintro e w1 ⟨rfl, hb, _, _⟩
  have B1 := Lib.hid hb
  clear hb
  go_wp2_with fail
  go_loopw [8, 4] (fun i _ wr => ∃ m : Nat, m ≤ t.size ∧ i = .int .i64 m ∧ Hid (Bld w w.heap.size (34 :: (t.data.toList.take m).flatMap quoteB) wr)) (fun i _ _ => t.size - (intOf i).toNat)
  case atStart => exact ⟨0, Nat.zero_le _, rfl, B1.out⟩
  case round =>
    obtain ⟨m, hm, rfl, HB⟩ := hrel
    by_cases hlt : m < t.size
    · have hmi : (m : Int) < (t.size : Int) := by omega
      have hge : t.data.toList[m]? = some (t[m]'hlt) := by rw [List.getElem?_eq_getElem (by rw [← size_eq]; exact hlt)]; rfl
      have hix : ∀ w, (Instr.index 9 (.string t) (.int .i64 m)).run Tryz.prog w = .ok (.int .u8 ((t[m]'hlt).toNat : Int)) w := fun w => by
        rw [run_index_string w _ _ _ _ Tryz.underlying9]
        simp [hmi]
      generalize t[m]'hlt = c at hix hge
      have HS := Lib.hid (take_flat hge)
      have hlen := off_le t.data.toList m
      rw [← size_eq] at hlen
      have HL := Lib.hid hlen
      clear hge hlen
      go_wp2_with fail
      refine (escaped_any c _).mono ?_
      rintro e w2 ⟨rfl, hb⟩
      have B2 := Lib.hid (HB.out.other hb)
      clear hb
      go_wp2_with fail
      refine (B2.out.str ⟨(quoteB c).toArray⟩ (by
        have h1 := HL.out
        have h2 := quoteB_len c
        have h3 : (⟨(quoteB c).toArray⟩ : ByteArray).size = (quoteB c).length := mk_size _
        rw [h3, List.length_cons]
        omega)).mono ?_
      rintro e w3 ⟨rfl, hb, _, _⟩
      have B3 : Hid (Bld w w.heap.size (34 :: (t.data.toList.take (m + 1)).flatMap quoteB) w3) := by rw [HS.out]; exact hb
      clear hb
      go_wp2_with fail
      go_roundw
      case rel => exact ⟨m + 1, by omega, by go_num, B3⟩
      case measure => simp [intOf]; omega
    · obtain rfl : m = t.size := by omega
      have hlen := off_le t.data.toList t.size
      rw [← size_eq] at hlen
      have HL := Lib.hid hlen
      clear hlen
      go_wp2_with fail
      refine (HB.out.str ⟨#[34]⟩ (by
        have h1 := HL.out
        have h3 : (⟨#[34]⟩ : ByteArray).size = 1 := rfl
        rw [h3, List.length_cons]
        omega)).mono ?_
      rintro e w2 ⟨rfl, hb, _, _⟩
      have B2 := Lib.hid hb
      clear hb
      go_wp2_with fail
      refine (B2.out.out).mono ?_
      rintro e w3 ⟨rfl, hb⟩
      have B3 := Lib.hid hb
      clear hb
      have hq := Lib.hid (show (34 :: (t.data.toList.take t.size).flatMap quoteB) ++ (⟨#[34]⟩ : ByteArray).data.toList = quoteL t.data.toList by
        rw [List.take_of_length_le (by rw [← size_eq]; exact Nat.le_refl _)]; rfl)
      go_wp2_with fail
      go_ret
      exact ⟨by rw [← hq.out]; rfl, B3.out⟩

/-- What 'inside' tells. -/
def InPost (s o c : ByteArray) (w : World) (e : Ending) (w' : World) : Prop := ∃ (u : ByteArray) (ok : Bool), e = .returned (.tuple #[.string u, .bool ok]) ∧ u.size ≤ s.size ∧
  (∀ m : List UInt8, s.data.toList = o.data.toList ++ (m ++ c.data.toList) → u.data.toList = m ∧ ok = true) ∧ w = w'

theorem trimPrefix_app (p x : List UInt8) : Lib.hasPrefix (p ++ x) p = true ∧ Lib.trimPrefix (p ++ x) p = x := by
  have h : Lib.hasPrefix (p ++ x) p = true := by rw [Lib.hasPrefix, List.isPrefixOf_iff_prefix]; exact ⟨x, rfl⟩
  exact ⟨h, by rw [Lib.trimPrefix, if_pos h, List.drop_left]⟩
theorem trimSuffix_app (p x : List UInt8) : Lib.hasSuffix (x ++ p) p = true ∧ Lib.trimSuffix (x ++ p) p = x := by
  have h : Lib.hasSuffix (x ++ p) p = true := by rw [Lib.hasSuffix, List.isSuffixOf_iff_suffix]; exact ⟨x, rfl⟩
  exact ⟨h, by rw [Lib.trimSuffix, if_pos h]; simp⟩

set_option maxHeartbeats 1000000 in
set_option maxRecDepth 100000 in
theorem inside_any (s o c : ByteArray) (hs : s.size ≤ 9223372036854775807) (w : World) : Calls Tryz.prog 85 #[.string s, .string o, .string c] w (InPost s o c w) := by
  go_enter Tryz.func85, Tryz.ntmps85
  go_wp2_with fail
  refine (cutPrefix_some _ _ _).mono ?_
  rintro e w1 ⟨t, ok, rfl, ht, hok, rfl⟩
  have hts : t.size ≤ s.size := by
    rw [size_eq, ht.out, size_eq]; exact Lib.trimPrefix_le s.data.toList o.data.toList
  go_wp2_with fail
  refine (cutSuffix_some _ _ (by omega) _).mono ?_
  rintro e w1 ⟨u, ok2, rfl, hu, hok2, rfl⟩
  have hus : u.size ≤ s.size := by
    rw [size_eq, hu.out]; have := Lib.trimSuffix_le t.data.toList c.data.toList; rw [← size_eq] at this; exact Nat.le_trans this hts
  have hf := Lib.hid (show InPost s o c w (.returned (.tuple #[.string u, .bool (ok && ok2)])) w from ⟨u, _, rfl, hus, fun m hm => by
    have h1 := trimPrefix_app o.data.toList (m ++ c.data.toList)
    rw [← hm, ← ht.out, hok.out] at h1
    have h2 := trimSuffix_app c.data.toList m
    rw [← h1.2, ← hu.out, hok2.out] at h2
    exact ⟨h2.2, by rw [h1.1, h2.1]; rfl⟩, rfl⟩)
  cases ok
  · go_wp2_with fail
    go_ret2
    exact hf.out
  · go_wp2_with fail
    go_ret2
    exact hf.out
end Go.Proofs.YtiofnjnaleglgaaGreatDoor

/-
  'unquoted' by its contract: it gives back the text that 'quoted' wrote; of any other string it tells something.
-/
namespace Go.Proofs.YtiofnjnaleglgaaGreatDoor
open Go.RowKit

theorem below_putObj {B : Nat} {a w : World} (h : Below B a w) {r : Nat} (hr : B ≤ r) (o : Obj) : Below B a (w.putObj r o) :=
  h.trans ⟨rfl, rfl, rfl, by simp, fun k hk => World.putObj_heap_other (by omega)⟩
theorem Bld.put {w W : World} {b : Nat} {l : List UInt8} (h : Bld w b l W) {r : Nat} {s : ByteArray} {p : Nat} (hr : w.heap.size ≤ r) (hi : W.heap[r]? = some (.stringIter s p)) (o : Obj) : Bld w b l (W.putObj r o) :=
  h.same (by simp) (below_putObj h.below hr o) fun k cs t fr hk => (World.putObj_heap_other (fun e => by subst e; rw [hi] at hk; cases hk)).trans hk

/-- How far a text has been read back. -/
def unqAt (inner t0 acc : List UInt8) (pos nxt : Nat) : Prop := inner = t0.flatMap quoteB ∧ ∃ m, m ≤ t0.length ∧ acc = t0.take m ∧ (if pos < nxt then nxt else pos) = offL t0 m
section
variable {inner t0 acc : List UInt8} {pos nxt : Nat}
theorem unq_low (h : unqAt inner t0 acc pos nxt) : ∀ c ∈ inner, c.toNat < 128 := by
  rw [h.1]
  intro c hc
  obtain ⟨b, _, hb⟩ := List.mem_flatMap.1 hc
  exact quoteB_low b c hb
theorem unq_skip (h : unqAt inner t0 acc pos nxt) (hlt : pos < nxt) : unqAt inner t0 acc (pos + 1) nxt := by
  obtain ⟨h1, m, hm, ha, ho⟩ := h
  refine ⟨h1, m, hm, ha, ?_⟩
  rw [if_pos hlt] at ho
  split <;> omega
theorem unq_here (h : unqAt inner t0 acc pos nxt) (hge : ¬ pos < nxt) (hp : pos < inner.length) : ∃ b m, t0[m]? = some b ∧ acc = t0.take m ∧ pos = offL t0 m ∧ inner.drop pos = quoteB b ++ (t0.drop (m + 1)).flatMap quoteB := by
  obtain ⟨h1, m, hm, ha, ho⟩ := h
  rw [if_neg hge] at ho
  have hlt : m < t0.length := by
    refine Nat.lt_of_le_of_ne hm (fun e => ?_)
    rw [e, off_len, ← h1] at ho
    omega
  exact ⟨t0[m], m, List.getElem?_eq_getElem hlt, ha, ho, by rw [h1, ho]; exact off_at (List.getElem?_eq_getElem hlt)⟩
theorem unq_byte (h : unqAt inner t0 acc pos nxt) (hge : ¬ pos < nxt) {c : UInt8} (hc : inner[pos]? = some c) (h92 : ¬ c.toNat = 92) : (32 ≤ c.toNat ∧ c.toNat ≤ 126) ∧ unqAt inner t0 (acc ++ [c]) (pos + 1) nxt := by
  have hp := (List.getElem?_eq_some_iff.1 hc).1
  obtain ⟨b, m, hb, ha, ho, hd⟩ := unq_here h hge hp
  have hh : (inner.drop pos)[0]? = some c := by rw [List.getElem?_drop]; simpa using hc
  rw [hd] at hh
  have hlt : m < t0.length := (List.getElem?_eq_some_iff.1 hb).1
  rcases quoteB_out b with ⟨h2, h32, h126, _⟩ | ⟨_, h2⟩ | ⟨_, h2⟩ | ⟨_, h2⟩ | h2
  · rw [h2] at hh
    have e : b = c := by simpa using hh
    subst e
    refine ⟨⟨h32, h126⟩, h.1, m + 1, hlt, by rw [List.take_add_one, hb, ha]; rfl, ?_⟩
    rw [off_next hb, h2, ← ho, if_neg (by omega)]
    rfl
  all_goals
    rw [h2] at hh
    have e : 92 = c := by simpa using hh
    subst e
    exact absurd rfl h92
theorem unq_esc (h : unqAt inner t0 acc pos nxt) (hge : ¬ pos < nxt) {c : UInt8} (hc : inner[pos]? = some c) (h92 : c.toNat = 92) {code width : Nat} (hcan : canonE (inner.drop pos) code width) :
    width ≠ 0 ∧ unqAt inner t0 (acc ++ [UInt8.ofNat code]) (pos + 1) (pos + width) := by
  have hp := (List.getElem?_eq_some_iff.1 hc).1
  obtain ⟨b, m, hb, ha, ho, hd⟩ := unq_here h hge hp
  have hh : (inner.drop pos)[0]? = some c := by rw [List.getElem?_drop]; simpa using hc
  have hlt : m < t0.length := (List.getElem?_eq_some_iff.1 hb).1
  have hne : (quoteB b).length ≠ 1 := by
    rcases quoteB_out b with ⟨h2, _, _, _, h5⟩ | ⟨_, h2⟩ | ⟨_, h2⟩ | ⟨_, h2⟩ | h2
    · rw [hd, h2] at hh
      have e : b = c := by simpa using hh
      exact absurd (by rw [e]; exact h92) h5
    all_goals rw [h2]; simp
  obtain ⟨h3, h4⟩ := hcan b _ hd hne
  have hge2 : 2 ≤ (quoteB b).length := by
    rcases quoteB_out b with ⟨h2, _⟩ | ⟨_, h2⟩ | ⟨_, h2⟩ | ⟨_, h2⟩ | h2 <;> rw [h2] at hne ⊢ <;> simp at hne ⊢
  refine ⟨by omega, h.1, m + 1, hlt, ?_, ?_⟩
  · rw [List.take_add_one, hb, ha, h3, UInt8.ofNat_toNat]; rfl
  · rw [off_next hb, ← ho, h4, if_pos (by omega)]
theorem quoteB_pos (b : UInt8) : 0 < (quoteB b).length := by
  rcases quoteB_out b with ⟨h2, _⟩ | ⟨_, h2⟩ | ⟨_, h2⟩ | ⟨_, h2⟩ | h2 <;> rw [h2] <;> simp
theorem unq_end (h : unqAt inner t0 acc pos nxt) (hp : ¬ pos < inner.length) : acc = t0 := by
  obtain ⟨h1, m, hm, ha, ho⟩ := h
  have hle : inner.length ≤ offL t0 m := by rw [← ho]; split <;> omega
  have hm' : m = t0.length := by
    refine Nat.le_antisymm hm (Nat.le_of_not_lt fun hlt => ?_)
    have e := off_at (t := t0) (List.getElem?_eq_getElem hlt)
    have := congrArg List.length e
    rw [List.length_drop, ← h1, List.length_append] at this
    have := quoteB_pos t0[m]
    omega
  rw [ha, hm', List.take_length]
theorem unq_start : unqAt (t0.flatMap quoteB) t0 [] 0 0 := ⟨rfl, 0, Nat.zero_le _, rfl, rfl⟩
end

/-- What 'unquoted' tells. -/
def UnqPost (v : ByteArray) (w : World) (e : Ending) (w' : World) : Prop := Below w.heap.size w w' ∧ ∃ (t : ByteArray) (ok : Bool), e = .returned (.tuple #[.string t, .bool ok]) ∧ t.size ≤ v.size ∧ ∀ t0, v.data.toList = quoteL t0 → t.data.toList = t0 ∧ ok = true

theorem wrap_u8 (c : Nat) (h : c ≤ 126) : IntKind.u8.wrap (c : Int) = c := by rw [IntKind.wrap_u8]; omega

set_option maxHeartbeats 4000000 in
set_option maxRecDepth 100000 in
theorem unquoted_any (v : ByteArray) (hv : v.size ≤ 140737488355327) (w : World) (hE : Env w) : Calls Tryz.prog 122 #[.string v] w (UnqPost v w) := by
  have HE := Lib.hid hE
  clear hE
  go_enter Tryz.func122, Tryz.ntmps122
  go_wp2_with fail
  go_step3
  go_wp2_with fail
  refine (inside_any v ⟨#[34]⟩ ⟨#[34]⟩ (by omega) _).mono ?_
  rintro e w1 ⟨s, ok, rfl, hs, hin, rfl⟩
  have HIN := Lib.hid hin
  have B0 := Lib.hid (Bld.made (Below.refl w.heap.size w))
  clear hin
  go_wp2_with fail
  go_step3
  go_wp2_with fail
  go_loopw [5, 7] (fun v5 v7 wr => ∃ pos nxt : Nat, ∃ acc : List UInt8, v5 = .bool ok ∧ v7 = .int .i64 nxt ∧ nxt ≤ s.size ∧ wr.heap[w.heap.size + 1]? = some (.stringIter s pos) ∧
    Hid (Bld w w.heap.size acc wr ∧ acc.length ≤ pos ∧ acc.length ≤ s.size ∧ ∀ t0, v.data.toList = quoteL t0 → unqAt s.data.toList t0 acc pos nxt)) (fun _ _ wr => s.size - wr.iterPos (w.heap.size + 1))
  case atStart =>
    refine ⟨0, 0, [], rfl, rfl, Nat.zero_le _, ?_, B0.out.alloc _, Nat.zero_le _, Nat.zero_le _, fun t0 h => ?_⟩
    · have := World.iter_heap (w.alloc (.cells #[.pointer none, .slice none 0 0] 116)) s 0
      simpa using this
    · have h1 := (HIN.out (t0.flatMap quoteB) h).1
      rw [h1]
      exact unq_start
  case round =>
    obtain ⟨pos, nxt, acc, rfl, rfl, hnxt, hit, hh⟩ := hrel
    by_cases hp : pos < s.size
    rotate_left
    · have hnx : ∀ ty, (Instr.next (.pointer (some ⟨w.heap.size + 1, 0, none⟩)) true ty).run Tryz.prog wr = .ok (.tuple #[.bool false]) wr := fun ty => run_next_over wr _ s pos ty hit hp
      clear hit
      cases ok
      · have hf := Lib.hid (show UnqPost v w (.returned (.tuple #[.string ⟨#[]⟩, .bool false])) wr from ⟨hh.out.1.below, ⟨#[]⟩, false, rfl, Nat.zero_le _, fun t0 h => by cases (HIN.out (t0.flatMap quoteB) h).2⟩)
        go_wp2_with fail
        try rw [Exit.noGoto_ret]
        go_ret2
        exact hf.out
      · go_wp2_with fail
        refine (hh.out.1.out).mono ?_
        rintro e w3 ⟨rfl, hb⟩
        have hf := Lib.hid (show UnqPost v w (.returned (.tuple #[.string ⟨acc.toArray⟩, .bool true])) w3 from ⟨hb, ⟨acc.toArray⟩, true, rfl, by
            rw [mk_size]; exact Nat.le_trans hh.out.2.2.1 hs, fun t0 h => ⟨unq_end (hh.out.2.2.2 t0 h) (by rw [← size_eq]; exact hp), rfl⟩⟩)
        clear hb
        go_wp2_with fail
        try rw [Exit.noGoto_ret]
        go_ret2
        exact hf.out
    · have hnx : ∀ ty, (Instr.next (.pointer (some ⟨w.heap.size + 1, 0, none⟩)) true ty).run Tryz.prog wr = _ := fun ty => run_next_at wr _ s pos ty hit hp
      have hit2 : (wr.putObj (w.heap.size + 1) (.stringIter s (pos + (Utf8.decode s pos).2))).heap[w.heap.size + 1]? = some (.stringIter s (pos + (Utf8.decode s pos).2)) := World.putObj_heap_same (lt_of_block hit)
      have hb2 := hh.out.1.put (r := w.heap.size + 1) (by omega) hit (.stringIter s (pos + (Utf8.decode s pos).2))
      have hmeas := Lib.hid (show wr.iterPos (w.heap.size + 1) = pos by unfold World.iterPos; rw [hit])
      obtain ⟨W2, hW2⟩ : ∃ W2, W2 = wr.putObj (w.heap.size + 1) (.stringIter s (pos + (Utf8.decode s pos).2)) := ⟨_, rfl⟩
      rw [← hW2] at hnx hit2 hb2
      clear hW2 hit
      have hge : s.data.toList[pos]? = some (s[pos]'hp) := by rw [List.getElem?_eq_getElem (by rw [← size_eq]; exact hp)]; rfl
      have hasc := decode_ascii s pos hp
      have hhigh := decode_high s pos hp
      have hwid := width_pos s pos hp
      have HB2 := Lib.hid (And.intro hit2 hb2)
      have HH := Lib.hid hh.out.2
      clear hit2 hb2 hh
      generalize s[pos]'hp = c0 at hge hasc hhigh
      generalize Utf8.decode s pos = cw at hnx HB2 hasc hhigh hwid
      obtain ⟨cc, wd⟩ := cw
      dsimp only at hnx HB2 hasc hhigh hwid
      have hlow : ∀ t0, v.data.toList = quoteL t0 → c0.toNat < 128 := fun t0 h => unq_low (HH.out.2.2 t0 h) c0 (List.mem_of_getElem? hge)
      by_cases hsk : pos < nxt
      · have hski : (pos : Int) < (nxt : Int) := by omega
        have hrel2 := Lib.hid (show (Bld w w.heap.size acc W2 ∧ acc.length ≤ pos + wd ∧ acc.length ≤ s.size ∧ ∀ t0, v.data.toList = quoteL t0 → unqAt s.data.toList t0 acc (pos + wd) nxt) from
          ⟨HB2.out.2, by have := HH.out.1; omega, HH.out.2.1, fun t0 h => by
            have e := hasc (hlow t0 h)
            have : wd = 1 := by injection e
            rw [this]
            exact unq_skip (HH.out.2.2 t0 h) hsk⟩)
        clear hge hasc hhigh hlow
        go_wp2_with fail
        go_roundw
        case rel => exact ⟨pos + wd, nxt, acc, rfl, rfl, hnxt, HB2.out.1, hrel2.out⟩
        case measure =>
          have h1 : W2.iterPos (w.heap.size + 1) = pos + wd := by unfold World.iterPos; rw [HB2.out.1]
          rw [h1, hmeas.out]
          omega
      · have hski : ¬ (pos : Int) < (nxt : Int) := by omega
        by_cases h92 : cc = 92
        · subst h92
          have hc92 : c0.toNat = 92 := by
            by_cases ha : c0.toNat < 128
            · have e := hasc ha
              injection e with e1
              omega
            · have := (hhigh (by omega)).1
              omega
          have hposi : (pos : Int) ≤ (s.size : Int) := by omega
          have HC := Lib.hid (And.intro hge hc92)
          have hwd1 : Hid (wd = 1) := by
            have e := hasc (by omega)
            injection e with e1 e2
          clear hge hasc hhigh hlow hc92
          go_wp2_with fail
          refine (unescaped_any (s.extract pos s.size) _ (HE.out.below HB2.out.2.below)).mono ?_
          rintro e w3 ⟨hb, code, width, rfl, hcode, hwd, hcan⟩
          rw [back_extract] at hcan
          have hes : (s.extract pos s.size).size = s.size - pos := by rw [ByteArray.size_extract]; omega
          rw [hes] at hwd
          have B3 := Lib.hid (HB2.out.2.other hb)
          have I3 := Lib.hid ((hb.block _ (lt_of_block HB2.out.1)).trans HB2.out.1)
          have hesc : Hid (∀ t0, v.data.toList = quoteL t0 → width ≠ 0 ∧ unqAt s.data.toList t0 (acc ++ [UInt8.ofNat code]) (pos + 1) (pos + width)) := fun t0 h => unq_esc (HH.out.2.2 t0 h) hsk HC.out.1 HC.out.2 hcan
          clear hb hcan hes
          by_cases hw0 : width = 0
          · subst hw0
            have hf := Lib.hid (show UnqPost v w (.returned (.tuple #[.string ⟨#[]⟩, .bool false])) w3 from ⟨B3.out.below, ⟨#[]⟩, false, rfl, Nat.zero_le _, fun t0 h => absurd rfl (hesc.out t0 h).1⟩)
            go_wp2_with fail
            try rw [Exit.noGoto_ret]
            go_ret2
            exact hf.out
          · have hw0i : ¬ (width : Int) = 0 := by omega
            have hwd2 : width ≤ s.size - pos := by omega
            have hsum : (pos : Int) + (width : Int) ≤ 9223372036854775807 := by omega
            have hcodeU := Lib.hid (show (code : Int) = ((UInt8.ofNat code).toNat : Int) by rw [UInt8.toNat_ofNat']; omega)
            have hacc := HH.out.1
            go_wp2_with fail
            refine (B3.out.byte (UInt8.ofNat code) (code : Int) hcodeU.out (by omega)).mono ?_
            rintro e w4 ⟨rfl, hb, hbl, hko⟩
            have B4 := Lib.hid hb
            have I4 := Lib.hid (hko.same _ _ I3.out rfl)
            clear hb hbl hko
            go_wp2_with fail
            go_roundw
            case rel =>
              refine ⟨pos + wd, pos + width, acc ++ [UInt8.ofNat code], rfl, by go_num, by omega, I4.out, B4.out, ?_, ?_, fun t0 h => ?_⟩
              · rw [List.length_append, List.length_singleton]; omega
              · rw [List.length_append, List.length_singleton]; omega
              · rw [hwd1.out]
                exact (hesc.out t0 h).2
            case measure =>
              have h1 : w4.iterPos (w.heap.size + 1) = pos + wd := by unfold World.iterPos; rw [I4.out]
              rw [h1, hmeas.out]
              omega
        · by_cases hbad : cc < 32 ∨ 126 < cc
          · have hf := Lib.hid (show UnqPost v w (.returned (.tuple #[.string ⟨#[]⟩, .bool false])) W2 from ⟨HB2.out.2.below, ⟨#[]⟩, false, rfl, Nat.zero_le _, fun t0 h => by
              have e := hasc (hlow t0 h)
              injection e with e1 _
              have := (unq_byte (HH.out.2.2 t0 h) hsk hge (by omega)).1
              omega⟩)
            have h92i : ¬ (cc : Int) = 92 := by omega
            clear hge hasc hhigh hlow
            rcases hbad with hlo | hhi
            · have hloi : (cc : Int) < 32 := by omega
              go_wp2_with fail
              try rw [Exit.noGoto_ret]
              go_ret2
              exact hf.out
            · have hloi : ¬ (cc : Int) < 32 := by omega
              have hhii : (126 : Int) < (cc : Int) := by omega
              go_wp2_with fail
              try rw [Exit.noGoto_ret]
              go_ret2
              exact hf.out
          · have h92i : ¬ (cc : Int) = 92 := by omega
            have hloi : ¬ (cc : Int) < 32 := by omega
            have hhii : ¬ (126 : Int) < (cc : Int) := by omega
            have ha : c0.toNat < 128 := by
              refine Nat.lt_of_not_le fun h => ?_
              have := (hhigh (by omega)).1
              omega
            have e := hasc ha
            injection e with e1 e2
            have hwb : IntKind.u8.wrap (cc : Int) = (c0.toNat : Int) := by rw [wrap_u8 cc (by omega), e1]
            have hrest : Hid (∀ t0, v.data.toList = quoteL t0 → unqAt s.data.toList t0 (acc ++ [c0]) (pos + wd) nxt) := fun t0 h => by
              rw [e2]
              exact (unq_byte (HH.out.2.2 t0 h) hsk hge (by omega)).2
            have hacc := HH.out.1
            clear hge hasc hhigh hlow e1 e2 ha hbad h92
            go_wp2_with fail
            refine (HB2.out.2.byte c0 (c0.toNat : Int) rfl (by omega)).mono ?_
            rintro e w4 ⟨rfl, hb, hbl, hko⟩
            have B4 := Lib.hid hb
            have I4 := Lib.hid (hko.same _ _ HB2.out.1 rfl)
            clear hb hbl hko
            go_wp2_with fail
            go_roundw
            case rel =>
              refine ⟨pos + wd, nxt, acc ++ [c0], rfl, rfl, hnxt, I4.out, B4.out, ?_, ?_, hrest.out⟩
              · rw [List.length_append, List.length_singleton]; omega
              · rw [List.length_append, List.length_singleton]; omega
            case measure =>
              have h1 : w4.iterPos (w.heap.size + 1) = pos + wd := by unfold World.iterPos; rw [I4.out]
              rw [h1, hmeas.out]
              omega
end Go.Proofs.YtiofnjnaleglgaaGreatDoor

