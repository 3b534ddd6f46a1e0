/-
  Texts of mine in one file: YC, LA, LB, LC, LD.
-/
import Derived.Test.YtiofnjnaleglgaaGreatDoorG14
import Derived.Test.YtiofnjnaleglgaaGreatDoorG11
import Derived.Maps.AppendAt
import Derived.Test.YtiofnjnaleglgaaGreatDoorG08
import Derived.Lib.IndexLaws
import Derived.Lib.Join
import Derived.Lib.IndexMore
import Derived.BigQuiet
/-
  The reference's 'Read' and 'Is' by contracts.
-/
namespace Go.Proofs.YtiofnjnaleglgaaGreatDoor
open Go.RowKit

/-! A struct of four cells. -/
theorem cells4 {w : World} {b : Nat} {t : TypeId} {v0 v1 v2 v3 : Value} (h : w.heap[b]? = some (.cells #[v0, v1, v2, v3] t (0, 0))) :
    w.cell? ⟨b, 0, none⟩ = some v0 ∧ w.cell? ⟨b, 1, none⟩ = some v1 ∧ w.cell? ⟨b, 2, none⟩ = some v2 ∧ w.cell? ⟨b, 3, none⟩ = some v3 ∧ ∀ j, w.frozen? ⟨b, j, none⟩ = false := by
  refine ⟨?_, ?_, ?_, ?_, fun j => ?_⟩ <;> simp [World.cell?, World.frozen?, h]
theorem set4_block {w : World} {b : Nat} {t : TypeId} {v0 v1 v2 v3 u0 u1 u2 u3 : Value} (h : w.heap[b]? = some (.cells #[v0, v1, v2, v3] t (0, 0))) :
    ((((w.setCell ⟨b, 0, none⟩ u0).setCell ⟨b, 1, none⟩ u1).setCell ⟨b, 2, none⟩ u2).setCell ⟨b, 3, none⟩ u3).heap[b]? = some (.cells #[u0, u1, u2, u3] t (0, 0)) := by
  have h0 := heap_setCell_same _ b 0 _ t u0 h
  have h1 := heap_setCell_same _ b 1 _ t u1 h0
  have h2 := heap_setCell_same _ b 2 _ t u2 h1
  have h3 := heap_setCell_same _ b 3 _ t u3 h2
  rw [h3]
  rfl
theorem set4_below {B b : Nat} {w0 w : World} {u0 u1 u2 u3 : Value} (hg : Below B w0 w) (hb : B ≤ b) :
    Below B w0 ((((w.setCell ⟨b, 0, none⟩ u0).setCell ⟨b, 1, none⟩ u1).setCell ⟨b, 2, none⟩ u2).setCell ⟨b, 3, none⟩ u3) :=
  (((hg.setCell hb _).setCell hb _).setCell hb _).setCell hb _
theorem tVar {w : World} {b : Nat} {v0 v1 v2 v3 : Value} (h : w.heap[b]? = some (.cells #[v0, v1, v2, v3] 102 (0, 0))) :
    (loadVar 102 ⟨b, 0, none⟩).run Tryz.prog w = .ok (.agg #[v0, v1, v2, v3]) w :=
  run_loadVar_row w b _ _ _ _ _ h Tryz.underlying102 rfl (by kernel_rfl)

def ReadRPost (s : ByteArray) (w : World) (e : Ending) (w' : World) : Prop :=
  Below w.heap.size w w' ∧ ((readR s.data.toList = none ∧ ∃ T : Int, e = .returned (.tuple #[.agg #[.int .i64 T, .int .i64 0, .slice none 0 0, .string ⟨#[]⟩], .bool false])) ∨
    ∃ (k b : Int) (es : List Int) (el : ByteArray) (ao : Option Addr) (c : Nat), readR s.data.toList = some (k, b, es, el.data.toList) ∧ IntsAt w' ao es ∧
      e = .returned (.tuple #[.agg #[.int .i64 k, .int .i64 b, .slice ao es.length c, .string el], .bool true]))
theorem read_no {s : ByteArray} {w w' : World} {T : Int} (h : readR s.data.toList = none) (hb : Below w.heap.size w w') : ReadRPost s w (.returned (.tuple #[.agg #[.int .i64 T, .int .i64 0, .slice none 0 0, .string ⟨#[]⟩], .bool false])) w' := ⟨hb, .inl ⟨h, T, rfl⟩⟩
theorem read_flat {s : ByteArray} {k b : Int} {w w' : World} (h : readR s.data.toList = some (k, b, [], [])) (hb : Below w.heap.size w w') :
    ReadRPost s w (.returned (.tuple #[.agg #[.int .i64 k, .int .i64 b, .slice none 0 0, .string ⟨#[]⟩], .bool true])) w' := ⟨hb, .inr ⟨k, b, [], ⟨#[]⟩, none, 0, h, .inl rfl, rfl⟩⟩
theorem byte_beq {c x : UInt8} {y : Int} (hx : (x.toNat : Int) = y) (h : ((c.toNat : Int) == y) = true) : c = x := by
  rw [beq_iff_eq, ← hx] at h
  exact UInt8.toNat_inj.1 (by omega)
theorem head_beq {s : ByteArray} (h0 : 0 < s.size) {x : UInt8} {y : Int} (hx : (x.toNat : Int) = y) (h : s.data.toList.head? = some x) : (((s[0]'h0).toNat : Int) == y) = true := by
  rw [head_at s h0] at h
  rw [Option.some.inj h, beq_iff_eq, hx]
theorem number_index {l : List UInt8} {n : Nat} (h : numberR l = (n, true, true)) : n = 64 := by
  unfold numberR at h
  split at h
  · injection h with h _
    exact h.symm
  · split at h
    · injection h with _ h
      injection h with h _
      cases h
    · injection h with _ h
      injection h with h _
      cases h
theorem IsPair_some (s : ByteArray) (w : World) : Calls Tryz.prog 90 #[.string s, .int .i64 59] w fun e w' => ∃ b, e = .returned (.bool b) ∧ isPairR s.data.toList 59 = b ∧ w = w' :=
  (IsPair_ref s 59 (by decide) w).mono fun _ _ ⟨he, hw⟩ => ⟨_, he, rfl, hw⟩
theorem last_beq {s : ByteArray} (h : s.size - 1 < s.size) : ((((s[s.size - 1]'h).toNat : Int) != 62) = false ↔ s.data.toList.getLast? = some 62) := by
  have hl : s.data.toList.length - 1 < s.data.toList.length := by simpa using h
  have e : s.data.toList.getLast? = some (s[s.size - 1]'h) := by
    rw [List.getLast?_eq_getElem?, List.getElem?_eq_getElem hl]
    have : s.data.toList.length - 1 = s.size - 1 := by simp
    congr 1
  rw [e, Option.some.injEq, bne_eq_false_iff_eq]
  constructor
  · intro h
    exact UInt8.toNat_inj.1 (by simpa using (by omega : (s[s.size - 1]'_).toNat = 62))
  · intro h
    rw [h]; rfl
theorem headDigit_at {s : ByteArray} (h : 0 < s.size) : headDigit s.data.toList = bDigit (s[0]'h) := by
  have := head_at s h
  cases hl : s.data.toList with
  | nil => rw [hl] at this; cases this
  | cons c l =>
    rw [hl] at this
    have e : c = s[0]'h := Option.some.inj this
    rw [← e]; rfl
def strLen : Value → Nat
  | .string s => s.size
  | _ => 0
/-- What 'Read' holds between two rounds over the extents. -/
structure RSt (w : World) (k : Int) (l0 : List UInt8) (es : List Int) (q : ByteArray) (ao : Option Addr) (c : Nat) (wr : World) : Prop where
  n3 : es.length ≤ 3
  ran : ∀ x ∈ es, 0 ≤ x ∧ x ≤ 1000
  res : wr.heap[w.heap.size]? = some (.cells #[.int .i64 0, .int .i64 0, .slice none 0 0, .string ⟨#[]⟩] 102 (0, 0))
  t : wr.heap[w.heap.size + 1]? = some (.cells #[.int .i64 k, .int .i64 0, .slice ao es.length c, .string ⟨#[]⟩] 102 (0, 0))
  own : wr.ownsRow (w.heap.size + 2) 3 1 (.slice ao es.length c) es.length (es.map (.int .i64))
  bel : Below w.heap.size w wr
  size : w.heap.size + 2 ≤ wr.heap.size
  eq : extsR (3 - es.length) q.data.toList es = extsR 3 l0 []
  short : q.size ≤ 9223372036854775807
theorem RSt.start {w : World} {k : Int} {q : ByteArray} (hq : q.size ≤ 9223372036854775807) : RSt w k q.data.toList [] q none 0 ((w.alloc (.cells #[.int .i64 0, .int .i64 0, .slice none 0 0, .string ⟨#[]⟩] 102)).alloc (.cells #[.int .i64 k, .int .i64 0, .slice none 0 0, .string ⟨#[]⟩] 102)) := by
  refine ⟨by decide, (fun x hx => by cases hx), ?_, ?_, ⟨rfl, .inl ⟨rfl, rfl⟩⟩, ?_, ?_, rfl, hq⟩
  · exact (Below.heap_alloc _ _ _ (by simp)).trans (heap_alloc_new _ _)
  · have := heap_alloc_new (w.alloc (.cells #[.int .i64 0, .int .i64 0, .slice none 0 0, .string ⟨#[]⟩] 102)) (.cells #[.int .i64 k, .int .i64 0, .slice none 0 0, .string ⟨#[]⟩] 102)
    simpa using this
  · exact ((Below.refl w.heap.size w).alloc (Nat.le_refl _) _).alloc (by simp) _
  · simp
theorem RSt.stop {w : World} {k : Int} {l0 : List UInt8} {es : List Int} {q : ByteArray} {ao : Option Addr} {c : Nat} {wr : World} (h : RSt w k l0 es q ao c wr) (hd : headDigit q.data.toList = false) : extsR 3 l0 [] = some (es, q.data.toList) := by
  rw [← h.eq, extsR_eq, if_pos hd]
theorem mid_extract (s : ByteArray) (h : 5 ≤ s.size) : (s.extract 4 (s.size - 1)).data.toList = (s.data.toList.drop 4).dropLast := by
  have hl : s.data.toList.length = s.size := by simp
  rw [extract_toList, List.dropLast_eq_take, List.length_drop, List.drop_take, hl, show s.size - 1 - 4 = s.size - 4 - 1 by omega]

theorem x_step {s : ByteArray} {m : Nat} (h : (s.data.toList.take m).all notX = true) (hm : m < s.size) (hp : notX (s[m]'hm) = true) : (s.data.toList.take (m + 1)).all notX = true := by
  have hl : m < s.data.toList.length := by simpa using hm
  rw [take_snoc hl, all_snoc, h, Bool.true_and]
  exact hp
theorem own_slice {w : World} {B n : Nat} {e : TypeId} {v : Value} {xs : List Value} (h : w.ownsRow B e 1 v n xs) : ∃ ao c, v = .slice ao n c := by
  rcases h.2 with ⟨rfl, rfl⟩ | ⟨g, c, _, rfl, _⟩
  · exact ⟨none, 0, rfl⟩
  · exact ⟨_, c, rfl⟩
theorem own_below {w : World} {B n : Nat} {e : TypeId} {v : Value} {xs : List Value} (h : w.ownsRow B e 1 v n xs) {b : Nat} (hb : v.ownBlock = some b) : B ≤ b := by
  rcases h.2 with ⟨rfl, _⟩ | ⟨g, c, _, rfl, hg, _⟩
  · cases hb
  · cases hb
    exact hg
theorem own_ints {w : World} {B n : Nat} {ao : Option Addr} {c : Nat} {es : List Int} (h : w.ownsRow B 3 1 (.slice ao n c) n (es.map (.int .i64))) (hn : n = es.length) : IntsAt w ao es := by
  rcases h.2 with ⟨_, h0⟩ | ⟨g, c', cur, hv, _, hg, _, _, _, hcur⟩
  · rw [h0] at hn
    exact .inl (List.eq_nil_of_length_eq_zero hn.symm)
  · cases hv
    refine .inr ⟨_, rfl, fun j hj => ?_⟩
    have h1 : (cur.toList.take (n * 1))[j]? = some (.int .i64 (es[j]?.getD 0)) := by
      rw [hcur, List.getElem?_map, List.getElem?_eq_getElem hj]; rfl
    rw [List.getElem?_take_of_lt (by omega)] at h1
    rw [Addr.add_lit, cell_of_row _ _ _ _ _ _ hg]
    simpa using h1
theorem info_int : ∃ i, Tryz.prog.info? 3 = some i ∧ i.zero = some (.int .i64 0) ∧ i.size = 1 ∧ i.bytes = 8 := by
  have h1 : (Tryz.prog.info? 3).map (·.zero) = some (some (.int .i64 0)) := by kernel_rfl
  have h2 : (Tryz.prog.info? 3).map (·.size) = some 1 := by kernel_rfl
  have h3 : (Tryz.prog.info? 3).map (·.bytes) = some 8 := by kernel_rfl
  cases hi : Tryz.prog.info? 3 with
  | none => rw [hi] at h1; cases h1
  | some i =>
    rw [hi] at h1 h2 h3
    exact ⟨i, rfl, Option.some.inj h1, Option.some.inj h2, Option.some.inj h3⟩
/-- One number is appended to a slice of the call's own. -/
theorem append_run {w : World} {B : Nat} {ao : Option Addr} {c : Nat} {es : List Int} (h : w.ownsRow B 3 1 (.slice ao es.length c) es.length (es.map (.int .i64))) (hB : B ≤ w.heap.size) (h3 : es.length ≤ 3) (x : Int) (T : TypeId) {ty : TypeId} :
    ∃ ao' c' w', (Builtin.append_ #[100, 100] ty #[.slice ao es.length c, .slice (some ⟨w.heap.size, 0, none⟩) 1 1]).run Tryz.prog (w.alloc (.cells #[.int .i64 x] T)) = .ok (.slice ao' (es.length + 1) c') w' ∧
      w'.ownsRow B 3 1 (.slice ao' (es ++ [x]).length c') (es ++ [x]).length ((es ++ [x]).map (.int .i64)) ∧ Below B w w' ∧ w.heap.size ≤ w'.heap.size := by
  obtain ⟨i, hi, hz, hsz, hby⟩ := info_int
  have hown : (w.alloc (.cells #[.int .i64 x] T)).ownsRow B 3 1 (.slice ao es.length c) es.length (es.map (.int .i64)) := by
    refine ⟨h.1, ?_⟩
    rcases h.2 with h | ⟨g, c', cur, hv, hb, hg, hr⟩
    · exact .inl h
    · exact .inr ⟨g, c', cur, hv, hb, (Below.heap_alloc _ _ _ (lt_of_block hg)).trans hg, hr⟩
  have hcell : ∀ j u, [Value.int .i64 x][j]? = some u → (w.alloc (.cells #[.int .i64 x] T)).cell? ((⟨w.heap.size, 0, none⟩ : Addr).add j) = some u := by
    intro j u hj
    cases j with
    | zero =>
      simp only [List.getElem?_cons_zero, Option.some.injEq] at hj
      subst hj
      rw [Addr.add_lit, cell_of_row _ _ _ _ _ _ (heap_alloc_new _ _)]
      rfl
    | succ j => simp at hj
  obtain ⟨v', w', hr, h1, h2, _, h4⟩ := run_append_own_at (P := Tryz.prog) (w.alloc (.cells #[.int .i64 x] T)) B 100 ty 3 i (.int .i64 0) 1 8 Tryz.underlying100 hi hz hsz hby rfl (by decide)
    (.slice ao es.length c) es.length (es.map (.int .i64)) hown ⟨w.heap.size, 0, none⟩ 1 1 [.int .i64 x] rfl hcell (fun u hu => by simp only [List.mem_singleton] at hu; subst hu; rfl) (by simp only [maxLen]; omega) (by omega) (by simp; omega)
  obtain ⟨ao', c', rfl⟩ := own_slice h1
  refine ⟨ao', c', w', hr, ?_, ?_, ?_⟩
  · rw [List.length_append, List.map_append]
    exact h1
  · refine ⟨h2.os.trans rfl, h2.tape.trans rfl, h2.output.trans rfl, ?_, fun k hk => ?_⟩
    · have := h2.size; simp at this; omega
    · rw [h2.block k (by simp; omega) (fun e => by
        have := own_below hown e.symm
        omega)]
      exact Below.heap_alloc _ _ _ (by omega)
  · have := h2.size; simp at this; omega

theorem wp_append_int {ops : Array Oper} {rest : List Oper} {o : Oper} {a : Act} {Q : Exit → Act → World → Prop} {w : World} (hgd : o.guard = none) (s x : Operand)
    (ho : o.op = .call { callee := .builtin .append, args := #[s, x], argTypes := #[100, 100] }) {B : Nat} {ao : Option Addr} {c : Nat} {es : List Int} {n : Int}
    (h : w.ownsRow B 3 1 (.slice ao es.length c) es.length (es.map (.int .i64))) (hB : B ≤ w.heap.size) (h3 : es.length ≤ 3) (hs : a.eval s = .slice ao es.length c) (hx : a.eval x = .slice (some ⟨w.heap.size, 0, none⟩) 1 1)
    (hk : ∀ ao' c' w', w'.ownsRow B 3 1 (.slice ao' (es ++ [n]).length c') (es ++ [n]).length ((es ++ [n]).map (.int .i64)) → Below B w w' → wpList Tryz.prog ops Q rest (a.put o.dst (.slice ao' (es.length + 1) c')) w') :
    wpList Tryz.prog ops Q (o :: rest) a (w.alloc (.cells #[.int .i64 n] 3)) := by
  obtain ⟨ao', c', w', hr, h1, h2, _⟩ := append_run (ty := o.type) h hB h3 n 3
  refine wpList_plain hgd fun K hK => ?_
  unfold Oper.wp execOp
  simp only [ho, resolve, invoke, builtin, Sem.run_bind, Sem.run_pure, Result.andThen_ok, List.map_toArray, List.map_cons, List.map_nil, hs, hx, hr]
  exact hK _ _ (hk ao' c' w' h1 h2)

theorem ran_prod {es : List Int} (h3 : es.length ≤ 2) (hr : ∀ x ∈ es, 0 ≤ x ∧ x ≤ 1000) : 0 ≤ prodL es ∧ prodL es ≤ 1000000 := by
  match es, h3 with
  | [], _ => decide
  | [a], _ =>
    have h1 := hr a (by simp)
    simp only [prodL, List.foldl_cons, List.foldl_nil, Int.one_mul]
    omega
  | [a, b], _ =>
    have h1 := hr a (by simp)
    have h2 := hr b (by simp)
    simp only [prodL, List.foldl_cons, List.foldl_nil, Int.one_mul]
    have := Int.mul_le_mul h1.2 h2.2 h2.1 (by omega)
    exact ⟨Int.mul_nonneg h1.1 h2.1, by omega⟩
theorem prodL_snoc (es : List Int) (x : Int) : prodL (es ++ [x]) = prodL es * x := by
  unfold prodL
  rw [List.foldl_append]
  rfl

theorem own_kept {w w' : World} {B n : Nat} {e : TypeId} {v : Value} {xs : List Value} (h : w.ownsRow B e 1 v n xs) (hk : ∀ k, B ≤ k → w'.heap[k]? = w.heap[k]?) : w'.ownsRow B e 1 v n xs := by
  refine ⟨h.1, ?_⟩
  rcases h.2 with h | ⟨g, c, cur, hv, hb, hg, hr⟩
  · exact .inl h
  · exact .inr ⟨g, c, cur, hv, hb, (hk g hb).trans hg, hr⟩
theorem mul_ok {w : World} {k : Int} {l0 : List UInt8} {es : List Int} {q : ByteArray} {ao : Option Addr} {c : Nat} {wr : World} (h : RSt w k l0 es q ao c wr) (h3 : ¬ es.length = 3) {l : List UInt8} {n : Nat} (hn : numR l 1000 = (n, true)) : wrap64 (prodL es * n) = prodL es * n := by
  have hb := ran_prod (es := es) (by have := h.n3; omega) h.ran
  have h1000 : n ≤ 1000 := by
    have := numR_yes (l := l) (m := 1000) (by rw [hn])
    rw [hn] at this
    have h1 := this.2.2.2.1
    have h2 := this.2.2.2.2.1
    simp only at h1
    omega
  have h1 : prodL es * n ≤ 1000000 * 1000 := Int.mul_le_mul hb.2 (by omega) (by omega) (by omega)
  have h2 : 0 ≤ prodL es * n := Int.mul_nonneg hb.1 (by omega)
  unfold wrap64
  omega
/-- The end of 'Read' with a refusal, or with what was read. -/
theorem RSt.fail {s : ByteArray} {w : World} {k : Int} {l0 : List UInt8} {es : List Int} {q : ByteArray} {ao : Option Addr} {c : Nat} {wr : World} (h : RSt w k l0 es q ao c wr) (hr : readR s.data.toList = none) :
    (loadVar 102 ⟨w.heap.size, 0, none⟩).run Tryz.prog ((((wr.setCell ⟨w.heap.size, 0, none⟩ (.int .i64 0)).setCell ⟨w.heap.size, 1, none⟩ (.int .i64 0)).setCell ⟨w.heap.size, 2, none⟩ (.slice none 0 0)).setCell ⟨w.heap.size, 3, none⟩ (.string ⟨#[]⟩)) =
      .ok (.agg #[.int .i64 0, .int .i64 0, .slice none 0 0, .string ⟨#[]⟩]) ((((wr.setCell ⟨w.heap.size, 0, none⟩ (.int .i64 0)).setCell ⟨w.heap.size, 1, none⟩ (.int .i64 0)).setCell ⟨w.heap.size, 2, none⟩ (.slice none 0 0)).setCell ⟨w.heap.size, 3, none⟩ (.string ⟨#[]⟩)) ∧
    ReadRPost s w (.returned (.tuple #[.agg #[.int .i64 0, .int .i64 0, .slice none 0 0, .string ⟨#[]⟩], .bool false])) ((((wr.setCell ⟨w.heap.size, 0, none⟩ (.int .i64 0)).setCell ⟨w.heap.size, 1, none⟩ (.int .i64 0)).setCell ⟨w.heap.size, 2, none⟩ (.slice none 0 0)).setCell ⟨w.heap.size, 3, none⟩ (.string ⟨#[]⟩)) :=
  ⟨tVar (set4_block h.res), read_no hr (set4_below h.bel (Nat.le_refl _))⟩
theorem RSt.el {w : World} {k : Int} {l0 : List UInt8} {es : List Int} {q : ByteArray} {ao : Option Addr} {c : Nat} {wr : World} (h : RSt w k l0 es q ao c wr) (v : Value) :
    (wr.setCell ⟨w.heap.size + 1, 3, none⟩ v).heap[w.heap.size]? = some (.cells #[.int .i64 0, .int .i64 0, .slice none 0 0, .string ⟨#[]⟩] 102 (0, 0)) ∧ Below w.heap.size w (wr.setCell ⟨w.heap.size + 1, 3, none⟩ v) :=
  ⟨by rw [heap_setCell_other _ _ _ _ (by dsimp only; omega)]; exact h.res, h.bel.setCell (by dsimp only; omega) _⟩
theorem RSt.yes {s : ByteArray} {w : World} {k : Int} {l0 : List UInt8} {es : List Int} {q : ByteArray} {ao : Option Addr} {c : Nat} {wr : World} (h : RSt w k l0 es q ao c wr) (hr : readR s.data.toList = some (k, 0, es, q.data.toList)) :
    ReadRPost s w (.returned (.tuple #[.agg #[.int .i64 k, .int .i64 0, .slice ao es.length c, .string q], .bool true]))
      (((((wr.setCell ⟨w.heap.size + 1, 3, none⟩ (.string q)).setCell ⟨w.heap.size, 0, none⟩ (.int .i64 k)).setCell ⟨w.heap.size, 1, none⟩ (.int .i64 0)).setCell ⟨w.heap.size, 2, none⟩ (.slice ao es.length c)).setCell ⟨w.heap.size, 3, none⟩ (.string q)) := by
  refine ⟨set4_below (h.el _).2 (Nat.le_refl _), .inr ⟨k, 0, es, q, ao, c, hr, ?_, rfl⟩⟩
  refine own_ints (B := w.heap.size + 2) (c := c) (own_kept h.own fun j hj => ?_) rfl
  rw [heap_setCell_other _ _ _ _ (by dsimp only; omega), heap_setCell_other _ _ _ _ (by dsimp only; omega), heap_setCell_other _ _ _ _ (by dsimp only; omega), heap_setCell_other _ _ _ _ (by dsimp only; omega), heap_setCell_other _ _ _ _ (by dsimp only; omega)]
theorem x_stop {q : ByteArray} {m : Nat} (h : (q.data.toList.take m).all notX = true) (hm : m < q.size) (hx : notX (q[m]'hm) = false) :
    q.data.toList.takeWhile notX = q.data.toList.take m ∧ q.data.toList.dropWhile notX = q[m]'hm :: q.data.toList.drop (m + 1) := by
  have hl : m < q.data.toList.length := by simpa using hm
  have hcat : q.data.toList = q.data.toList.take m ++ q[m]'hm :: q.data.toList.drop (m + 1) := by
    conv => lhs; rw [← List.take_append_drop m q.data.toList, List.drop_eq_getElem_cons hl]
    rfl
  obtain ⟨h1, h2⟩ := tw_append (p := notX) (m := q[m]'hm :: q.data.toList.drop (m + 1)) h
  rw [← hcat] at h1 h2
  simp only [List.takeWhile_cons, hx, List.dropWhile_cons, List.append_nil, Bool.false_eq_true, if_false] at h1 h2
  exact ⟨h1, h2⟩
theorem Num_1000 (s : ByteArray) (w : World) : Calls Tryz.prog 91 #[.string s, .int .i64 1000] w fun e w' => ∃ (n : Nat) (ok : Bool), e = .returned (.tuple #[.int .i64 n, .bool ok]) ∧ numR s.data.toList 1000 = (n, ok) ∧ w = w' :=
  (Num_any s 1000 w).mono fun _ _ ⟨he, hw⟩ => ⟨_, _, he, rfl, hw⟩

/-- The three ways in which an extent is no right one, and the one in which it is. -/
theorem RSt.bad {w : World} {k : Int} {l0 : List UInt8} {es : List Int} {q : ByteArray} {ao : Option Addr} {c : Nat} {wr : World} (h : RSt w k l0 es q ao c wr) (hd : headDigit q.data.toList = true)
    (hb : (numR (q.data.toList.takeWhile notX) 1000).2 = false ∨ q.data.toList.dropWhile notX = [] ∨ es.length = 3) : extsR 3 l0 [] = none := by
  rw [← h.eq, extsR_eq, if_neg (by rw [hd]; decide)]
  rcases hb with hb | hb | hb
  · rw [if_pos (.inl hb)]
  · rw [if_pos (.inr hb)]
  · rw [hb]
    simp
theorem RSt.next {w : World} {k : Int} {l0 : List UInt8} {es : List Int} {q q' : ByteArray} {ao ao' : Option Addr} {c c' : Nat} {wr w2 : World} (h : RSt w k l0 es q ao c wr) (hd : headDigit q.data.toList = true) {n : Nat}
    (hn : numR (q.data.toList.takeWhile notX) 1000 = (n, true)) {x : UInt8} {r : List UInt8} (hx : q.data.toList.dropWhile notX = x :: r) (hq : q'.data.toList = r) (h3 : ¬ es.length = 3)
    (hown : w2.ownsRow (w.heap.size + 2) 3 1 (.slice ao' (es ++ [(n : Int)]).length c') (es ++ [(n : Int)]).length ((es ++ [(n : Int)]).map (.int .i64))) (hb : Below (w.heap.size + 2) wr w2) :
    RSt w k l0 (es ++ [(n : Int)]) q' ao' c' (w2.setCell ⟨w.heap.size + 1, 2, none⟩ (.slice ao' (es.length + 1) c')) := by
  have hl3 := h.n3
  have hle : (es ++ [(n : Int)]).length = es.length + 1 := by simp
  have h1000 : n ≤ 1000 := by
    have := numR_yes (l := q.data.toList.takeWhile notX) (m := 1000) (by rw [hn])
    rw [hn] at this
    have h1 := this.2.2.2.1
    have h2 := this.2.2.2.2.1
    simp only at h1
    omega
  have ht := (hb.block (w.heap.size + 1) (by omega)).trans h.t
  refine ⟨by omega, ?_, ?_, ?_, ?_, ?_, ?_, ?_, ?_⟩
  · intro y hy
    rcases List.mem_append.1 hy with hy | hy
    · exact h.ran y hy
    · simp only [List.mem_singleton] at hy
      subst hy
      omega
  · rw [heap_setCell_other _ _ _ _ (by dsimp only; omega)]
    exact (hb.block _ (by omega)).trans h.res
  · rw [heap_setCell_same _ _ 2 _ _ _ ht, hle]
    rfl
  · refine ⟨hown.1, ?_⟩
    rcases hown.2 with h' | ⟨g, c2, cur, hv, hg, hgb, hr⟩
    · exact .inl h'
    · exact .inr ⟨g, c2, cur, hv, hg, by rw [heap_setCell_other _ _ _ _ (by dsimp only; omega)]; exact hgb, hr⟩
  · exact (h.bel.trans (hb.mono (by omega))).setCell (by dsimp only; omega) _
  · rw [setCell_size]
    have := hb.size
    have := h.size
    omega
  · rw [← h.eq, extsR_eq (3 - es.length), if_neg (by rw [hd]; decide), if_neg, hle, hq]
    · obtain ⟨m, hm⟩ : ∃ m, 3 - es.length = m + 1 := ⟨2 - es.length, by omega⟩
      rw [hm, show 3 - (es.length + 1) = m by omega, hx, List.tail_cons, hn]
    · rw [hn, hx]
      simp
  · have h1 := congrArg List.length (tw_dw (p := notX) q.data.toList)
    rw [List.length_append, hx, ← hq] at h1
    have := h.short
    simp at h1
    omega

set_option maxHeartbeats 16000000 in
set_option maxRecDepth 100000 in
theorem Read_ref (s : ByteArray) (hs : s.size ≤ 9223372036854775807) (w : World) : Calls Tryz.prog 71 #[.string s] w (ReadRPost s w) := by
  have HZ := Lib.hid (heap_alloc_new w (.cells #[.int .i64 0, .int .i64 0, .slice none 0 0, .string ⟨#[]⟩] 102))
  have HB := Lib.hid ((Below.refl w.heap.size w).alloc (Nat.le_refl _) (.cells #[.int .i64 0, .int .i64 0, .slice none 0 0, .string ⟨#[]⟩] 102))
  go_enter Tryz.func71, Tryz.ntmps71
  go_wp2_with fail
  refine (number_some_ref s _).mono ?_
  rintro e w1 ⟨n, ix, ok, rfl, hn, rfl⟩
  have HN := Lib.hid hn
  clear hn
  cases ok
  · by_cases h33 : 1 < s.size ∧ ∃ h : 0 < s.size, (((s[0]'h).toNat : Int) == 33) = true
    · obtain ⟨h1, h0, h33⟩ := h33
      have hp : ∀ b, isPairR s.data.toList.tail 59 = b → readR s.data.toList = if b = true then some (4, 0, [], []) else none := by
        intro b hb
        unfold readR
        rw [HN.out, if_neg Bool.false_ne_true, if_pos ⟨by simpa using h1, by rw [head_at s h0]; exact congrArg some (byte_beq (x := 33) (by decide) h33)⟩, hb]
      have HP := Lib.hid hp
      clear hp
      go_wp2_with fail
      refine (IsPair_some _ _).mono ?_
      rintro e w1 ⟨b, rfl, hb, hw⟩
      rw [tail_extract] at hb
      subst hw
      have hr := Lib.hid (HP.out b hb)
      clear hb
      cases b
      · go_wp2_with fail
        refine bodyPost_ret (v := .tuple #[.agg #[.int .i64 4, .int .i64 0, .slice none 0 0, .string ⟨#[]⟩], .bool false]) (results_cell_tmp Tryz.results71 rfl rfl (tVar (heap_alloc_new w _))) rfl ?_
        exact read_no hr.out ((Below.refl w.heap.size w).alloc (Nat.le_refl _) _)
      · go_wp2_with fail
        refine bodyPost_ret (v := .tuple #[.agg #[.int .i64 4, .int .i64 0, .slice none 0 0, .string ⟨#[]⟩], .bool true]) (results_cell_tmp Tryz.results71 rfl rfl (tVar (heap_alloc_new w _))) rfl ?_
        exact read_flat hr.out ((Below.refl w.heap.size w).alloc (Nat.le_refl _) _)
    · by_cases h5 : s.size < 5
      · have hr : Hid (readR s.data.toList = none) := Lib.hid <| by
          unfold readR
          rw [HN.out, if_neg Bool.false_ne_true, if_neg, if_pos (.inl (by simpa using h5))]
          rintro ⟨h1, h2⟩
          have h0 : 0 < s.size := by have : 1 < s.size := by simpa using h1
                                     omega
          exact h33 ⟨by simpa using h1, h0, head_beq h0 (x := 33) (by decide) h2⟩
        by_cases h1 : 1 < s.size
        · have h0 : 0 < s.size := by omega
          have h33' : (((s[0]'h0).toNat : Int) == 33) = false := by
            cases hz : (((s[0]'h0).toNat : Int) == 33)
            · rfl
            · exact absurd ⟨h1, h0, hz⟩ h33
          clear h33
          go_wp2_with fail
          refine bodyPost_ret (v := .tuple #[.agg #[.int .i64 0, .int .i64 0, .slice none 0 0, .string ⟨#[]⟩], .bool false]) (results_cell_tmp Tryz.results71 rfl rfl (tVar HZ.out)) rfl ?_
          exact read_no hr.out HB.out
        · clear h33
          go_wp2_with fail
          refine bodyPost_ret (v := .tuple #[.agg #[.int .i64 0, .int .i64 0, .slice none 0 0, .string ⟨#[]⟩], .bool false]) (results_cell_tmp Tryz.results71 rfl rfl (tVar HZ.out)) rfl ?_
          exact read_no hr.out HB.out
      · have h1 : 1 < s.size := by omega
        have h0 : 0 < s.size := by omega
        have h33' : (((s[0]'h0).toNat : Int) == 33) = false := by
          cases hz : (((s[0]'h0).toNat : Int) == 33)
          · rfl
          · exact absurd ⟨h1, h0, hz⟩ h33
        have h5i : 5 ≤ (s.size : Int) := by omega
        have hlast : s.size - 1 < s.size := by omega
        have hR : readR s.data.toList = (if (s.data.toList.take 4 ≠ memW ∧ s.data.toList.take 4 ≠ arrW) ∨ s.data.toList.getLast? ≠ some 62 then none
            else match extsR 3 ((s.data.toList.drop 4).dropLast) [] with
              | none => none
              | some (es, l2) => if (numberR l2).2.2 = true ∧ prodL es ≤ 4096 then some (if s.data.toList.take 4 = arrW then 3 else 2, 0, es, l2) else none : Option (Int × Int × List Int × List UInt8)) := by
          unfold readR
          rw [HN.out, if_neg Bool.false_ne_true, if_neg]
          · have h5' : ¬ s.data.toList.length < 5 := by simpa using h5
            simp only [h5', false_or]
            rfl
          · rintro ⟨_, h2⟩
            rw [head_beq h0 (x := 33) (by decide) h2] at h33'
            cases h33'
        have HR := Lib.hid hR
        clear hR h33
        have h5d : decide ((s.size : Int) < 5) = false := decide_eq_false (by omega)
        have hg62 := last_beq hlast
        have hbad : (((s[s.size - 1]'hlast).toNat : Int) != 62) = true → readR s.data.toList = none := fun h => by
          rw [HR.out, if_pos (.inr fun e => by rw [hg62.2 e] at h; cases h)]
        have HBAD := Lib.hid hbad
        have HG := Lib.hid hg62
        clear hbad hg62
        cases hm : ((s.extract 0 4).toList == [109, 101, 109, 60])
        · cases ha : ((s.extract 0 4).toList == [97, 114, 114, 60])
          · have hr := Lib.hid (HR.out.trans (if_pos (.inl ⟨by rw [← front_extract]; exact ne_of_beq_toList hm, by rw [← front_extract]; exact ne_of_beq_toList ha⟩)))
            go_wp2_with fail
            refine bodyPost_ret (v := .tuple #[.agg #[.int .i64 0, .int .i64 0, .slice none 0 0, .string ⟨#[]⟩], .bool false]) (results_cell_tmp Tryz.results71 rfl rfl (tVar HZ.out)) rfl ?_
            exact read_no hr.out HB.out
          · cases hg : (((s[s.size - 1]'hlast).toNat : Int) != 62)
            · have hkk : (if s.data.toList.take 4 = arrW then (3 : Int) else 2) = 3 := by rw [← front_extract, eq_of_beq_toList ha]; rfl
              have hrd : ∀ z, extsR 3 (s.extract 4 (s.size - 1)).data.toList [] = z → readR s.data.toList = match z with
                  | none => none
                  | some (es, l2) => if (numberR l2).2.2 = true ∧ prodL es ≤ 4096 then some (3, 0, es, l2) else none := by
                intro z hz
                rw [HR.out, if_neg, ← mid_extract s (by omega), hz, hkk]
                rintro (⟨h1, h2⟩ | h)
                · exact h2 (by rw [← front_extract]; exact eq_of_beq_toList ha)
                · exact h (HG.out.1 hg)
              have HRD := Lib.hid hrd
              have hq63 : (s.extract 4 (s.size - 1)).size ≤ 9223372036854775807 := by rw [ByteArray.size_extract]; omega
              have hst : Hid (RSt w 3 (s.extract 4 (s.size - 1)).data.toList [] (s.extract 4 (s.size - 1)) none 0 _) := RSt.start hq63
              obtain ⟨l0, hl0⟩ : ∃ l0, l0 = (s.extract 4 (s.size - 1)).data.toList := ⟨_, rfl⟩
              rw [← hl0] at hst HRD
              clear hl0 hrd hkk
              go_wp2_with fail
              go_loopw [8, 9] (fun q c wr => ∃ (q' : ByteArray) (es : List Int) (ao : Option Addr) (cp : Nat), q = .string q' ∧ c = .int .i64 (prodL es) ∧ Hid (RSt w 3 l0 es q' ao cp wr)) (fun q _ _ => strLen q)
              case atStart => exact ⟨_, [], none, 0, rfl, rfl, hst⟩
              case round =>
                clear hst
                obtain ⟨q, es, ao, cp, rfl, rfl, HS⟩ := hrel
                have out : headDigit q.data.toList = false → Hid (extsR 3 l0 [] = some (es, q.data.toList)) := fun h => Lib.hid (HS.out.stop h)
                have hqs := HS.out.short
                cases hqe : q.toList.isEmpty
                · have hq0 : 0 < q.size := by rw [size_eq]; exact List.length_pos_iff.2 (nonempty_of hqe)
                  have hqb := (q[0]'hq0).toNat_lt
                  have hhd := headDigit_at hq0
                  by_cases hlo : 48 ≤ (q[0]'hq0).toNat
                  · by_cases hhi : (q[0]'hq0).toNat ≤ 57
                    · have hdig : Hid (headDigit q.data.toList = true) := Lib.hid (hhd.trans ((digit_iff _).2 ⟨hlo, hhi⟩))
                      clear out hhd
                      go_wp2_with fail
                      go_loopw [10] (fun i w2 => ∃ m : Nat, m ≤ q.size ∧ i = .int .i64 m ∧ Hid ((q.data.toList.take m).all notX = true) ∧ w2 = wr) (fun i _ => q.size - (intOf i).toNat)
                      case atStart => exact ⟨0, Nat.zero_le _, rfl, rfl, rfl⟩
                      case round =>
                        obtain ⟨m, hms, rfl, hall, rfl⟩ := hrel
                        by_cases hlt : m < q.size
                        · have hbm := (q[m]'hlt).toNat_lt
                          cases hx : (((q[m]'hlt).toNat : Int) != 120)
                          · have hst := Lib.hid (x_stop hall.out hlt (show notX (q[m]'hlt) = false by unfold notX bIs; simpa using hx))
                            go_wp2_with fail
                            refine (Num_1000 _ _).mono ?_
                            rintro e w2 ⟨n2, ok2, rfl, hn2, rfl⟩
                            rw [front_extract, ← hst.out.1] at hn2
                            have HN2 := Lib.hid hn2
                            clear hn2
                            obtain ⟨t0, t1, t2, t3, tf⟩ := cells4 HS.out.t
                            obtain ⟨r0, r1, r2, r3, rf⟩ := cells4 HS.out.res
                            have hmne : ((m : Int) == (q.size : Int)) = false := by rw [beq_eq_false_iff_ne]; omega
                            cases ok2
                            · have hy := Lib.hid (HRD.out _ (HS.out.bad hdig.out (.inl (by rw [HN2.out]))))
                              go_wp2_with fail
                              refine bodyPost_ret (v := .tuple #[.agg #[.int .i64 0, .int .i64 0, .slice none 0 0, .string ⟨#[]⟩], .bool false]) (results_cell_tmp Tryz.results71 rfl rfl (HS.out.fail hy.out).1) rfl ?_
                              exact (HS.out.fail hy.out).2
                            · cases h3 : ((es.length : Int) == 3)
                              · have h3n : ¬ es.length = 3 := by rw [beq_eq_false_iff_ne] at h3; omega
                                have hmul := mul_ok HS.out h3n HN2.out
                                go_wp2_with (at_builtin; refine wp_append_int rfl _ _ rfl HS.out.own HS.out.size HS.out.n3 rfl rfl ?_; intro ao' c' w3 hown hbel; have HOWN := Lib.hid hown; have HBEL := Lib.hid hbel; have ycells := cells4 ((hbel.block (w.heap.size + 1) (by omega)).trans HS.out.t); have y2 := ycells.2.2.1; have yf := ycells.2.2.2.2; clear hown hbel ycells)
                                go_roundw
                                case rel => exact ⟨_, es ++ [(n2 : Int)], ao', c', rfl, by rw [prodL_snoc, hmul], HS.out.next hdig.out HN2.out hst.out.2 (back_extract q (m + 1)) h3n HOWN.out HBEL.out⟩
                                case measure => simp only [strLen, ByteArray.size_extract]; omega
                              · have hy := Lib.hid (HRD.out _ (HS.out.bad hdig.out (.inr (.inr (by rw [beq_iff_eq] at h3; omega)))))
                                go_wp2_with fail
                                refine bodyPost_ret (v := .tuple #[.agg #[.int .i64 0, .int .i64 0, .slice none 0 0, .string ⟨#[]⟩], .bool false]) (results_cell_tmp Tryz.results71 rfl rfl (HS.out.fail hy.out).1) rfl ?_
                                exact (HS.out.fail hy.out).2
                          · have hnx := Lib.hid (show notX (q[m]'hlt) = true by unfold notX bIs; simpa using hx)
                            go_wp2_with fail
                            go_roundw
                            case rel => exact ⟨m + 1, by omega, by go_num, x_step hall.out hlt hnx.out, trivial⟩
                            case measure => simp [intOf]; omega
                        · obtain rfl : m = q.size := by omega
                          have hy := Lib.hid (HRD.out _ (HS.out.bad hdig.out (.inr (.inl (tw_all (by have := hall.out; rwa [List.take_of_length_le (by simp)] at this)).2))))
                          obtain ⟨t0, t1, t2, t3, tf⟩ := cells4 HS.out.t
                          obtain ⟨r0, r1, r2, r3, rf⟩ := cells4 HS.out.res
                          go_wp2_with fail
                          refine (Num_1000 _ _).mono ?_
                          rintro e w2 ⟨n2, ok2, rfl, hn2, rfl⟩
                          clear hn2
                          cases ok2
                          · go_wp2_with fail
                            refine bodyPost_ret (v := .tuple #[.agg #[.int .i64 0, .int .i64 0, .slice none 0 0, .string ⟨#[]⟩], .bool false]) (results_cell_tmp Tryz.results71 rfl rfl (HS.out.fail hy.out).1) rfl ?_
                            exact (HS.out.fail hy.out).2
                          · go_wp2_with fail
                            refine bodyPost_ret (v := .tuple #[.agg #[.int .i64 0, .int .i64 0, .slice none 0 0, .string ⟨#[]⟩], .bool false]) (results_cell_tmp Tryz.results71 rfl rfl (HS.out.fail hy.out).1) rfl ?_
                            exact (HS.out.fail hy.out).2
                    · have ho := out (by rw [hhd]; simp only [Bool.eq_false_iff]; exact fun h => hhi ((digit_iff _).1 h).2)
                      clear out hhd
                      go_wp2_with fail
                      refine (number_some_ref q _).mono ?_
                      rintro e w2 ⟨n2, ix2, ok2, rfl, hn2, rfl⟩
                      have HN2 := Lib.hid hn2
                      clear hn2
                      obtain ⟨t0, t1, t2, t3, tf⟩ := cells4 HS.out.t
                      obtain ⟨r0, r1, r2, r3, rf⟩ := cells4 HS.out.res
                      have hfin : readR s.data.toList = if (numberR q.data.toList).2.2 = true ∧ prodL es ≤ 4096 then some (3, 0, es, q.data.toList) else none := HRD.out _ ho.out
                      rw [HN2.out] at hfin
                      have HF := Lib.hid hfin
                      clear hfin
                      cases ok2
                      · go_wp2_with fail
                        refine bodyPost_ret (v := .tuple #[.agg #[.int .i64 0, .int .i64 0, .slice none 0 0, .string ⟨#[]⟩], .bool false]) (results_cell_tmp Tryz.results71 rfl rfl (tVar (set4_block (HS.out.el _).1))) rfl ?_
                        exact read_no (HF.out.trans (if_neg (fun h => Bool.false_ne_true h.1))) (set4_below (HS.out.el _).2 (Nat.le_refl _))
                      · by_cases hpr : prodL es ≤ 4096
                        · have hy := Lib.hid (HF.out.trans (if_pos ⟨rfl, hpr⟩))
                          go_wp2_with fail
                          refine bodyPost_ret (v := .tuple #[.agg #[.int .i64 3, .int .i64 0, .slice ao es.length cp, .string q], .bool true]) (results_cell_tmp Tryz.results71 rfl rfl (tVar (set4_block (HS.out.el _).1))) rfl ?_
                          exact HS.out.yes hy.out
                        · have hy := Lib.hid (HF.out.trans (if_neg (fun h => hpr h.2)))
                          go_wp2_with fail
                          refine bodyPost_ret (v := .tuple #[.agg #[.int .i64 0, .int .i64 0, .slice none 0 0, .string ⟨#[]⟩], .bool false]) (results_cell_tmp Tryz.results71 rfl rfl (tVar (set4_block (HS.out.el _).1))) rfl ?_
                          exact read_no hy.out (set4_below (HS.out.el _).2 (Nat.le_refl _))
                  · have ho := out (by rw [hhd]; simp only [Bool.eq_false_iff]; exact fun h => hlo ((digit_iff _).1 h).1)
                    clear out hhd
                    go_wp2_with fail
                    refine (number_some_ref q _).mono ?_
                    rintro e w2 ⟨n2, ix2, ok2, rfl, hn2, rfl⟩
                    have HN2 := Lib.hid hn2
                    clear hn2
                    obtain ⟨t0, t1, t2, t3, tf⟩ := cells4 HS.out.t
                    obtain ⟨r0, r1, r2, r3, rf⟩ := cells4 HS.out.res
                    have hfin : readR s.data.toList = if (numberR q.data.toList).2.2 = true ∧ prodL es ≤ 4096 then some (3, 0, es, q.data.toList) else none := HRD.out _ ho.out
                    rw [HN2.out] at hfin
                    have HF := Lib.hid hfin
                    clear hfin
                    cases ok2
                    · go_wp2_with fail
                      refine bodyPost_ret (v := .tuple #[.agg #[.int .i64 0, .int .i64 0, .slice none 0 0, .string ⟨#[]⟩], .bool false]) (results_cell_tmp Tryz.results71 rfl rfl (tVar (set4_block (HS.out.el _).1))) rfl ?_
                      exact read_no (HF.out.trans (if_neg (fun h => Bool.false_ne_true h.1))) (set4_below (HS.out.el _).2 (Nat.le_refl _))
                    · by_cases hpr : prodL es ≤ 4096
                      · have hy := Lib.hid (HF.out.trans (if_pos ⟨rfl, hpr⟩))
                        go_wp2_with fail
                        refine bodyPost_ret (v := .tuple #[.agg #[.int .i64 3, .int .i64 0, .slice ao es.length cp, .string q], .bool true]) (results_cell_tmp Tryz.results71 rfl rfl (tVar (set4_block (HS.out.el _).1))) rfl ?_
                        exact HS.out.yes hy.out
                      · have hy := Lib.hid (HF.out.trans (if_neg (fun h => hpr h.2)))
                        go_wp2_with fail
                        refine bodyPost_ret (v := .tuple #[.agg #[.int .i64 0, .int .i64 0, .slice none 0 0, .string ⟨#[]⟩], .bool false]) (results_cell_tmp Tryz.results71 rfl rfl (tVar (set4_block (HS.out.el _).1))) rfl ?_
                        exact read_no hy.out (set4_below (HS.out.el _).2 (Nat.le_refl _))
                · have ho := out (by rw [empty_of hqe]; rfl)
                  clear out
                  go_wp2_with fail
                  refine (number_some_ref q _).mono ?_
                  rintro e w2 ⟨n2, ix2, ok2, rfl, hn2, rfl⟩
                  have HN2 := Lib.hid hn2
                  clear hn2
                  obtain ⟨t0, t1, t2, t3, tf⟩ := cells4 HS.out.t
                  obtain ⟨r0, r1, r2, r3, rf⟩ := cells4 HS.out.res
                  have hfin : readR s.data.toList = if (numberR q.data.toList).2.2 = true ∧ prodL es ≤ 4096 then some (3, 0, es, q.data.toList) else none := HRD.out _ ho.out
                  rw [HN2.out] at hfin
                  have HF := Lib.hid hfin
                  clear hfin
                  cases ok2
                  · go_wp2_with fail
                    refine bodyPost_ret (v := .tuple #[.agg #[.int .i64 0, .int .i64 0, .slice none 0 0, .string ⟨#[]⟩], .bool false]) (results_cell_tmp Tryz.results71 rfl rfl (tVar (set4_block (HS.out.el _).1))) rfl ?_
                    exact read_no (HF.out.trans (if_neg (fun h => Bool.false_ne_true h.1))) (set4_below (HS.out.el _).2 (Nat.le_refl _))
                  · by_cases hpr : prodL es ≤ 4096
                    · have hy := Lib.hid (HF.out.trans (if_pos ⟨rfl, hpr⟩))
                      go_wp2_with fail
                      refine bodyPost_ret (v := .tuple #[.agg #[.int .i64 3, .int .i64 0, .slice ao es.length cp, .string q], .bool true]) (results_cell_tmp Tryz.results71 rfl rfl (tVar (set4_block (HS.out.el _).1))) rfl ?_
                      exact HS.out.yes hy.out
                    · have hy := Lib.hid (HF.out.trans (if_neg (fun h => hpr h.2)))
                      go_wp2_with fail
                      refine bodyPost_ret (v := .tuple #[.agg #[.int .i64 0, .int .i64 0, .slice none 0 0, .string ⟨#[]⟩], .bool false]) (results_cell_tmp Tryz.results71 rfl rfl (tVar (set4_block (HS.out.el _).1))) rfl ?_
                      exact read_no hy.out (set4_below (HS.out.el _).2 (Nat.le_refl _))
            · have hr := Lib.hid (HBAD.out hg)
              go_wp2_with fail
              refine bodyPost_ret (v := .tuple #[.agg #[.int .i64 0, .int .i64 0, .slice none 0 0, .string ⟨#[]⟩], .bool false]) (results_cell_tmp Tryz.results71 rfl rfl (tVar HZ.out)) rfl ?_
              exact read_no hr.out HB.out
        · have ha : ((s.extract 0 4).toList == [97, 114, 114, 60]) = false := by rw [beq_iff_eq] at hm; rw [hm]; rfl
          cases hg : (((s[s.size - 1]'hlast).toNat : Int) != 62)
          · have hkk : (if s.data.toList.take 4 = arrW then (3 : Int) else 2) = 2 := by rw [← front_extract, eq_of_beq_toList hm]; rfl
            have hrd : ∀ z, extsR 3 (s.extract 4 (s.size - 1)).data.toList [] = z → readR s.data.toList = match z with
                | none => none
                | some (es, l2) => if (numberR l2).2.2 = true ∧ prodL es ≤ 4096 then some (2, 0, es, l2) else none := by
              intro z hz
              rw [HR.out, if_neg, ← mid_extract s (by omega), hz, hkk]
              rintro (⟨h1, h2⟩ | h)
              · exact h1 (by rw [← front_extract]; exact eq_of_beq_toList hm)
              · exact h (HG.out.1 hg)
            have HRD := Lib.hid hrd
            have hq63 : (s.extract 4 (s.size - 1)).size ≤ 9223372036854775807 := by rw [ByteArray.size_extract]; omega
            have hst : Hid (RSt w 2 (s.extract 4 (s.size - 1)).data.toList [] (s.extract 4 (s.size - 1)) none 0 _) := RSt.start hq63
            obtain ⟨l0, hl0⟩ : ∃ l0, l0 = (s.extract 4 (s.size - 1)).data.toList := ⟨_, rfl⟩
            rw [← hl0] at hst HRD
            clear hl0 hrd hkk
            go_wp2_with fail
            go_loopw [8, 9] (fun q c wr => ∃ (q' : ByteArray) (es : List Int) (ao : Option Addr) (cp : Nat), q = .string q' ∧ c = .int .i64 (prodL es) ∧ Hid (RSt w 2 l0 es q' ao cp wr)) (fun q _ _ => strLen q)
            case atStart => exact ⟨_, [], none, 0, rfl, rfl, hst⟩
            case round =>
              clear hst
              obtain ⟨q, es, ao, cp, rfl, rfl, HS⟩ := hrel
              have out : headDigit q.data.toList = false → Hid (extsR 3 l0 [] = some (es, q.data.toList)) := fun h => Lib.hid (HS.out.stop h)
              have hqs := HS.out.short
              cases hqe : q.toList.isEmpty
              · have hq0 : 0 < q.size := by rw [size_eq]; exact List.length_pos_iff.2 (nonempty_of hqe)
                have hqb := (q[0]'hq0).toNat_lt
                have hhd := headDigit_at hq0
                by_cases hlo : 48 ≤ (q[0]'hq0).toNat
                · by_cases hhi : (q[0]'hq0).toNat ≤ 57
                  · have hdig : Hid (headDigit q.data.toList = true) := Lib.hid (hhd.trans ((digit_iff _).2 ⟨hlo, hhi⟩))
                    clear out hhd
                    go_wp2_with fail
                    go_loopw [10] (fun i w2 => ∃ m : Nat, m ≤ q.size ∧ i = .int .i64 m ∧ Hid ((q.data.toList.take m).all notX = true) ∧ w2 = wr) (fun i _ => q.size - (intOf i).toNat)
                    case atStart => exact ⟨0, Nat.zero_le _, rfl, rfl, rfl⟩
                    case round =>
                      obtain ⟨m, hms, rfl, hall, rfl⟩ := hrel
                      by_cases hlt : m < q.size
                      · have hbm := (q[m]'hlt).toNat_lt
                        cases hx : (((q[m]'hlt).toNat : Int) != 120)
                        · have hst := Lib.hid (x_stop hall.out hlt (show notX (q[m]'hlt) = false by unfold notX bIs; simpa using hx))
                          go_wp2_with fail
                          refine (Num_1000 _ _).mono ?_
                          rintro e w2 ⟨n2, ok2, rfl, hn2, rfl⟩
                          rw [front_extract, ← hst.out.1] at hn2
                          have HN2 := Lib.hid hn2
                          clear hn2
                          obtain ⟨t0, t1, t2, t3, tf⟩ := cells4 HS.out.t
                          obtain ⟨r0, r1, r2, r3, rf⟩ := cells4 HS.out.res
                          have hmne : ((m : Int) == (q.size : Int)) = false := by rw [beq_eq_false_iff_ne]; omega
                          cases ok2
                          · have hy := Lib.hid (HRD.out _ (HS.out.bad hdig.out (.inl (by rw [HN2.out]))))
                            go_wp2_with fail
                            refine bodyPost_ret (v := .tuple #[.agg #[.int .i64 0, .int .i64 0, .slice none 0 0, .string ⟨#[]⟩], .bool false]) (results_cell_tmp Tryz.results71 rfl rfl (HS.out.fail hy.out).1) rfl ?_
                            exact (HS.out.fail hy.out).2
                          · cases h3 : ((es.length : Int) == 3)
                            · have h3n : ¬ es.length = 3 := by rw [beq_eq_false_iff_ne] at h3; omega
                              have hmul := mul_ok HS.out h3n HN2.out
                              go_wp2_with (at_builtin; refine wp_append_int rfl _ _ rfl HS.out.own HS.out.size HS.out.n3 rfl rfl ?_; intro ao' c' w3 hown hbel; have HOWN := Lib.hid hown; have HBEL := Lib.hid hbel; have ycells := cells4 ((hbel.block (w.heap.size + 1) (by omega)).trans HS.out.t); have y2 := ycells.2.2.1; have yf := ycells.2.2.2.2; clear hown hbel ycells)
                              go_roundw
                              case rel => exact ⟨_, es ++ [(n2 : Int)], ao', c', rfl, by rw [prodL_snoc, hmul], HS.out.next hdig.out HN2.out hst.out.2 (back_extract q (m + 1)) h3n HOWN.out HBEL.out⟩
                              case measure => simp only [strLen, ByteArray.size_extract]; omega
                            · have hy := Lib.hid (HRD.out _ (HS.out.bad hdig.out (.inr (.inr (by rw [beq_iff_eq] at h3; omega)))))
                              go_wp2_with fail
                              refine bodyPost_ret (v := .tuple #[.agg #[.int .i64 0, .int .i64 0, .slice none 0 0, .string ⟨#[]⟩], .bool false]) (results_cell_tmp Tryz.results71 rfl rfl (HS.out.fail hy.out).1) rfl ?_
                              exact (HS.out.fail hy.out).2
                        · have hnx := Lib.hid (show notX (q[m]'hlt) = true by unfold notX bIs; simpa using hx)
                          go_wp2_with fail
                          go_roundw
                          case rel => exact ⟨m + 1, by omega, by go_num, x_step hall.out hlt hnx.out, trivial⟩
                          case measure => simp [intOf]; omega
                      · obtain rfl : m = q.size := by omega
                        have hy := Lib.hid (HRD.out _ (HS.out.bad hdig.out (.inr (.inl (tw_all (by have := hall.out; rwa [List.take_of_length_le (by simp)] at this)).2))))
                        obtain ⟨t0, t1, t2, t3, tf⟩ := cells4 HS.out.t
                        obtain ⟨r0, r1, r2, r3, rf⟩ := cells4 HS.out.res
                        go_wp2_with fail
                        refine (Num_1000 _ _).mono ?_
                        rintro e w2 ⟨n2, ok2, rfl, hn2, rfl⟩
                        clear hn2
                        cases ok2
                        · go_wp2_with fail
                          refine bodyPost_ret (v := .tuple #[.agg #[.int .i64 0, .int .i64 0, .slice none 0 0, .string ⟨#[]⟩], .bool false]) (results_cell_tmp Tryz.results71 rfl rfl (HS.out.fail hy.out).1) rfl ?_
                          exact (HS.out.fail hy.out).2
                        · go_wp2_with fail
                          refine bodyPost_ret (v := .tuple #[.agg #[.int .i64 0, .int .i64 0, .slice none 0 0, .string ⟨#[]⟩], .bool false]) (results_cell_tmp Tryz.results71 rfl rfl (HS.out.fail hy.out).1) rfl ?_
                          exact (HS.out.fail hy.out).2
                  · have ho := out (by rw [hhd]; simp only [Bool.eq_false_iff]; exact fun h => hhi ((digit_iff _).1 h).2)
                    clear out hhd
                    go_wp2_with fail
                    refine (number_some_ref q _).mono ?_
                    rintro e w2 ⟨n2, ix2, ok2, rfl, hn2, rfl⟩
                    have HN2 := Lib.hid hn2
                    clear hn2
                    obtain ⟨t0, t1, t2, t3, tf⟩ := cells4 HS.out.t
                    obtain ⟨r0, r1, r2, r3, rf⟩ := cells4 HS.out.res
                    have hfin : readR s.data.toList = if (numberR q.data.toList).2.2 = true ∧ prodL es ≤ 4096 then some (2, 0, es, q.data.toList) else none := HRD.out _ ho.out
                    rw [HN2.out] at hfin
                    have HF := Lib.hid hfin
                    clear hfin
                    cases ok2
                    · go_wp2_with fail
                      refine bodyPost_ret (v := .tuple #[.agg #[.int .i64 0, .int .i64 0, .slice none 0 0, .string ⟨#[]⟩], .bool false]) (results_cell_tmp Tryz.results71 rfl rfl (tVar (set4_block (HS.out.el _).1))) rfl ?_
                      exact read_no (HF.out.trans (if_neg (fun h => Bool.false_ne_true h.1))) (set4_below (HS.out.el _).2 (Nat.le_refl _))
                    · by_cases hpr : prodL es ≤ 4096
                      · have hy := Lib.hid (HF.out.trans (if_pos ⟨rfl, hpr⟩))
                        go_wp2_with fail
                        refine bodyPost_ret (v := .tuple #[.agg #[.int .i64 2, .int .i64 0, .slice ao es.length cp, .string q], .bool true]) (results_cell_tmp Tryz.results71 rfl rfl (tVar (set4_block (HS.out.el _).1))) rfl ?_
                        exact HS.out.yes hy.out
                      · have hy := Lib.hid (HF.out.trans (if_neg (fun h => hpr h.2)))
                        go_wp2_with fail
                        refine bodyPost_ret (v := .tuple #[.agg #[.int .i64 0, .int .i64 0, .slice none 0 0, .string ⟨#[]⟩], .bool false]) (results_cell_tmp Tryz.results71 rfl rfl (tVar (set4_block (HS.out.el _).1))) rfl ?_
                        exact read_no hy.out (set4_below (HS.out.el _).2 (Nat.le_refl _))
                · have ho := out (by rw [hhd]; simp only [Bool.eq_false_iff]; exact fun h => hlo ((digit_iff _).1 h).1)
                  clear out hhd
                  go_wp2_with fail
                  refine (number_some_ref q _).mono ?_
                  rintro e w2 ⟨n2, ix2, ok2, rfl, hn2, rfl⟩
                  have HN2 := Lib.hid hn2
                  clear hn2
                  obtain ⟨t0, t1, t2, t3, tf⟩ := cells4 HS.out.t
                  obtain ⟨r0, r1, r2, r3, rf⟩ := cells4 HS.out.res
                  have hfin : readR s.data.toList = if (numberR q.data.toList).2.2 = true ∧ prodL es ≤ 4096 then some (2, 0, es, q.data.toList) else none := HRD.out _ ho.out
                  rw [HN2.out] at hfin
                  have HF := Lib.hid hfin
                  clear hfin
                  cases ok2
                  · go_wp2_with fail
                    refine bodyPost_ret (v := .tuple #[.agg #[.int .i64 0, .int .i64 0, .slice none 0 0, .string ⟨#[]⟩], .bool false]) (results_cell_tmp Tryz.results71 rfl rfl (tVar (set4_block (HS.out.el _).1))) rfl ?_
                    exact read_no (HF.out.trans (if_neg (fun h => Bool.false_ne_true h.1))) (set4_below (HS.out.el _).2 (Nat.le_refl _))
                  · by_cases hpr : prodL es ≤ 4096
                    · have hy := Lib.hid (HF.out.trans (if_pos ⟨rfl, hpr⟩))
                      go_wp2_with fail
                      refine bodyPost_ret (v := .tuple #[.agg #[.int .i64 2, .int .i64 0, .slice ao es.length cp, .string q], .bool true]) (results_cell_tmp Tryz.results71 rfl rfl (tVar (set4_block (HS.out.el _).1))) rfl ?_
                      exact HS.out.yes hy.out
                    · have hy := Lib.hid (HF.out.trans (if_neg (fun h => hpr h.2)))
                      go_wp2_with fail
                      refine bodyPost_ret (v := .tuple #[.agg #[.int .i64 0, .int .i64 0, .slice none 0 0, .string ⟨#[]⟩], .bool false]) (results_cell_tmp Tryz.results71 rfl rfl (tVar (set4_block (HS.out.el _).1))) rfl ?_
                      exact read_no hy.out (set4_below (HS.out.el _).2 (Nat.le_refl _))
              · have ho := out (by rw [empty_of hqe]; rfl)
                clear out
                go_wp2_with fail
                refine (number_some_ref q _).mono ?_
                rintro e w2 ⟨n2, ix2, ok2, rfl, hn2, rfl⟩
                have HN2 := Lib.hid hn2
                clear hn2
                obtain ⟨t0, t1, t2, t3, tf⟩ := cells4 HS.out.t
                obtain ⟨r0, r1, r2, r3, rf⟩ := cells4 HS.out.res
                have hfin : readR s.data.toList = if (numberR q.data.toList).2.2 = true ∧ prodL es ≤ 4096 then some (2, 0, es, q.data.toList) else none := HRD.out _ ho.out
                rw [HN2.out] at hfin
                have HF := Lib.hid hfin
                clear hfin
                cases ok2
                · go_wp2_with fail
                  refine bodyPost_ret (v := .tuple #[.agg #[.int .i64 0, .int .i64 0, .slice none 0 0, .string ⟨#[]⟩], .bool false]) (results_cell_tmp Tryz.results71 rfl rfl (tVar (set4_block (HS.out.el _).1))) rfl ?_
                  exact read_no (HF.out.trans (if_neg (fun h => Bool.false_ne_true h.1))) (set4_below (HS.out.el _).2 (Nat.le_refl _))
                · by_cases hpr : prodL es ≤ 4096
                  · have hy := Lib.hid (HF.out.trans (if_pos ⟨rfl, hpr⟩))
                    go_wp2_with fail
                    refine bodyPost_ret (v := .tuple #[.agg #[.int .i64 2, .int .i64 0, .slice ao es.length cp, .string q], .bool true]) (results_cell_tmp Tryz.results71 rfl rfl (tVar (set4_block (HS.out.el _).1))) rfl ?_
                    exact HS.out.yes hy.out
                  · have hy := Lib.hid (HF.out.trans (if_neg (fun h => hpr h.2)))
                    go_wp2_with fail
                    refine bodyPost_ret (v := .tuple #[.agg #[.int .i64 0, .int .i64 0, .slice none 0 0, .string ⟨#[]⟩], .bool false]) (results_cell_tmp Tryz.results71 rfl rfl (tVar (set4_block (HS.out.el _).1))) rfl ?_
                    exact read_no hy.out (set4_below (HS.out.el _).2 (Nat.le_refl _))
          · have hr := Lib.hid (HBAD.out hg)
            go_wp2_with fail
            refine bodyPost_ret (v := .tuple #[.agg #[.int .i64 0, .int .i64 0, .slice none 0 0, .string ⟨#[]⟩], .bool false]) (results_cell_tmp Tryz.results71 rfl rfl (tVar HZ.out)) rfl ?_
            exact read_no hr.out HB.out
  · cases ix
    · have hr : Hid (readR s.data.toList = some (0, (n : Int), [], [])) := by
        unfold readR
        rw [HN.out]
        rfl
      go_wp2_with fail
      refine bodyPost_ret (v := .tuple #[.agg #[.int .i64 0, .int .i64 n, .slice none 0 0, .string ⟨#[]⟩], .bool true]) (results_cell_tmp Tryz.results71 rfl rfl (tVar (heap_alloc_new w _))) rfl ?_
      exact read_flat hr.out ((Below.refl w.heap.size w).alloc (Nat.le_refl _) _)
    · have hr : Hid (readR s.data.toList = some (1, 64, [], [])) := by
        have h64 : n = 64 := number_index HN.out
        subst h64
        unfold readR
        rw [HN.out]
        rfl
      go_wp2_with fail
      refine bodyPost_ret (v := .tuple #[.agg #[.int .i64 1, .int .i64 64, .slice none 0 0, .string ⟨#[]⟩], .bool true]) (results_cell_tmp Tryz.results71 rfl rfl (tVar (heap_alloc_new w _))) rfl ?_
      exact read_flat hr.out ((Below.refl w.heap.size w).alloc (Nat.le_refl _) _)

theorem Read_some (s : ByteArray) (hs : s.size ≤ 9223372036854775807) (w : World) : Calls Tryz.prog 71 #[.string s] w fun e w' => Below w.heap.size w w' ∧ ((readR s.data.toList = none ∧ ∃ T : Int, e = .returned (.tuple #[.agg #[.int .i64 T, .int .i64 0, .slice none 0 0, .string ⟨#[]⟩], .bool false])) ∨
    ∃ (k b : Int) (es : List Int) (el : ByteArray) (ao : Option Addr) (c : Nat), readR s.data.toList = some (k, b, es, el.data.toList) ∧ IntsAt w' ao es ∧
      e = .returned (.tuple #[.agg #[.int .i64 k, .int .i64 b, .slice ao es.length c, .string el], .bool true])) := Read_ref s hs w

set_option maxHeartbeats 400000 in
theorem Is_ref (s : ByteArray) (hs : s.size ≤ 9223372036854775807) (w : World) :
    Calls Tryz.prog 42 #[.string s] w fun e w' => e = .returned (.bool (readR s.data.toList).isSome) ∧ Below w.heap.size w w' := by
  go_enter Tryz.func42, Tryz.ntmps42
  go_wp2_with fail
  refine (Read_some s hs _).mono ?_
  rintro e w1 ⟨hb, ⟨hn, T, rfl⟩ | ⟨k, b, es, el, ao, c, hn, _, rfl⟩⟩
  · have HB := Lib.hid hb
    have HN := Lib.hid hn
    clear hb hn
    go_wp2_with fail
    go_ret
    exact ⟨by rw [HN.out]; rfl, HB.out.alloc HB.out.size _⟩
  · have HB := Lib.hid hb
    have HN := Lib.hid hn
    clear hb hn
    go_wp2_with fail
    go_ret
    exact ⟨by rw [HN.out]; rfl, HB.out.alloc HB.out.size _⟩
end Go.Proofs.YtiofnjnaleglgaaGreatDoor

/-
  Lists of types as plain lists of bytes: the reference's way through a list, and that the program's parts say the same.
-/
namespace Go.Proofs.YtiofnjnaleglgaaGreatDoor
open Go.RowKit

def notComma (b : UInt8) : Bool := !(bIs 44 b)
/-- Is a string a type for the reference? -/
def isTyR (l : List UInt8) : Bool := (readR l).isSome
abbrev gap : List UInt8 := [44, 32]

theorem comma_iff (c : UInt8) : notComma c = true ↔ ¬ c = 44 := by
  have := is_iff (x := 44) (y := 44) (by decide) c
  unfold notComma
  rw [Bool.not_eq_true', ← Bool.not_eq_true, this]

theorem isTy_isTyR (l : List UInt8) : isTy l = isTyR l := by
  unfold isTyR
  rcases agree l with ⟨h1, h2⟩ | ⟨k, b, r, e0, e1, e2, el, _, h1, h2, h3⟩
  · rw [h1, isTy, h2]; rfl
  · rw [h1, isTy, h2]
    by_cases hk : k = 0
    · have hb : ¬ b = 0 := fun e => h3 ⟨hk, e⟩
      simp [hb]
    · simp [hk]

/-! ### A type has no comma -/
theorem part_comma (c : UInt8) (h : bPart c = true) : notComma c = true := (comma_iff c).2 (fun e => by subst e; revert h; decide)
theorem all_append {p : UInt8 → Bool} {l m : List UInt8} (h : l.all p = true) (k : m.all p = true) : (l ++ m).all p = true := by rw [List.all_append, h, k]; rfl
theorem exts_comma : ∀ (m : Nat) (l : List UInt8) (es es' : List Int) (l2 : List UInt8), extsR m l es = some (es', l2) → l2.all notComma = true → l.all notComma = true := by
  intro m
  induction m with
  | zero =>
    intro l es es' l2 h h2
    rw [extsR_eq] at h
    split at h
    · injection h with h
      injection h with _ h
      rw [h]; exact h2
    · split at h <;> cases h
  | succ m ih =>
    intro l es es' l2 h h2
    rw [extsR_eq] at h
    split at h
    · injection h with h
      injection h with _ h
      rw [h]; exact h2
    · split at h
      · cases h
      · rename_i hc
        have h3 := ih _ _ _ _ h h2
        rw [← tw_dw (p := notX) l]
        refine all_append ?_ ?_
        · cases hn : (numR (l.takeWhile notX) 1000).2
          · exact absurd (.inl hn) hc
          · exact all_imp (numR_yes hn).1 (fun c hc => part_comma c ((part_iff c).2 (.inr (.inl ((digit_iff c).1 hc)))))
        · cases hd : l.dropWhile notX with
          | nil => rfl
          | cons x t =>
            rw [hd, List.tail_cons] at h3
            have hx := dw_head hd
            rw [List.all_cons, h3, Bool.and_true]
            refine (comma_iff x).2 (fun e => ?_)
            subst e
            revert hx; decide

theorem name_comma {l : List UInt8} (h : isNameR l = true) : l.all notComma = true := all_imp ((isNameR_iff l).1 h).2.2 part_comma
theorem pair_comma {l : List UInt8} {m : Nat} (h : isPairR l m = true) : l.all notComma = true := by
  unfold isPairR at h
  simp only [Bool.and_eq_true] at h
  obtain ⟨⟨⟨_, hne⟩, h1⟩, h2⟩ := h
  rw [← tw_dw (p := notDot) l]
  refine all_append (name_comma h1) ?_
  cases hd : l.dropWhile notDot with
  | nil => rfl
  | cons x t =>
    have hx := dw_head hd
    rw [hd, List.tail_cons] at h2
    rw [List.all_cons, name_comma h2, Bool.and_true]
    refine (comma_iff x).2 (fun e => ?_)
    subst e
    revert hx; decide
theorem ty_comma {l : List UInt8} (h : isTyR l = true) : l.all notComma = true := by
  unfold isTyR readR at h
  split at h
  · rename_i hn
    exact all_imp (number_len hn).2 part_comma
  split at h
  · rename_i h33
    split at h
    · rename_i hp
      cases l with
      | nil => rfl
      | cons c t =>
        have : c = 33 := by simpa using h33.2
        subst this
        rw [List.all_cons, show t.all notComma = true from pair_comma hp]; rfl
    · cases h
  split at h
  · cases h
  rename_i hc
  have hc1 : ¬ l.length < 5 := fun e => hc (.inl e)
  have hc2 : l.take 4 = memW ∨ l.take 4 = arrW := by
    by_cases a : l.take 4 = memW
    · exact .inl a
    · by_cases b : l.take 4 = arrW
      · exact .inr b
      · exact absurd (.inr (.inl ⟨a, b⟩)) hc
  have hc3 : l.getLast? = some 62 := by
    by_cases a : l.getLast? = some 62
    · exact a
    · exact absurd (.inr (.inr a)) hc
  split at h
  · cases h
  rename_i es l2 he
  split at h
  rotate_left
  · cases h
  rename_i hn
  have hmid := exts_comma _ _ _ _ _ he (all_imp (number_len hn.1).2 part_comma)
  rw [← List.take_append_drop 4 l]
  refine all_append ?_ ?_
  · rcases hc2 with e | e <;> rw [e] <;> decide
  · have hne : ¬ l.drop 4 = [] := fun e => by
      have := congrArg List.length e
      rw [List.length_drop, List.length_nil] at this
      omega
    have hl : (l.drop 4).getLast? = some 62 := by
      have hlast : l.getLast? = (l.drop 4).getLast? := by
        conv => lhs; rw [← List.take_append_drop 4 l]
        rw [List.getLast?_append]
        cases hx : (l.drop 4).getLast? with
        | none => exact absurd (List.getLast?_eq_none_iff.1 hx) hne
        | some x => rfl
      rw [← hlast]; exact hc3
    obtain ⟨inner, hin⟩ := last_is hl
    rw [hin, List.dropLast_concat] at hmid
    rw [hin]
    exact all_append hmid (by decide)

/-! ### The reference's way -/
/-- The types of a list of types, which is not empty, as the reference finds them: the strings between commas. -/
def splitL : Nat → List UInt8 → Option (List (List UInt8))
  | 0, _ => none
  | n + 1, l => if isTyR (l.takeWhile notComma) = false then none
    else if l.dropWhile notComma = [] then some [l.takeWhile notComma]
    else if (l.dropWhile notComma).tail.head? = some 32 then (splitL n (l.dropWhile notComma).tail.tail).map (l.takeWhile notComma :: ·)
    else none

theorem join_more (x y : List UInt8) (r : List (List UInt8)) : Lib.join (x :: y :: r) gap = x ++ gap ++ Lib.join (y :: r) gap := by
  rw [Lib.join_cons, Lib.join_cons]
  simp [Lib.joinTail]
theorem join_len : ∀ (ps : List (List UInt8)), ps.length ≤ (Lib.join ps gap).length + 1
  | [] => by simp
  | [x] => by simp
  | x :: y :: r => by
    have := join_len (y :: r)
    rw [join_more]
    simp only [List.length_append, List.length_cons, List.length_nil] at *
    omega

theorem split_join : ∀ (n : Nat) (l : List UInt8) (ps : List (List UInt8)), splitL n l = some ps → ps ≠ [] ∧ l = Lib.join ps gap ∧ ∀ p ∈ ps, isTyR p = true := by
  intro n
  induction n with
  | zero => intro l ps h; cases h
  | succ n ih =>
    intro l ps h
    unfold splitL at h
    split at h
    · cases h
    rename_i ht
    have ht : isTyR (l.takeWhile notComma) = true := by simpa using ht
    split at h
    · rename_i hd
      cases h
      refine ⟨by simp, ?_, fun p hp => by simp only [List.mem_singleton] at hp; rw [hp]; exact ht⟩
      rw [Lib.join_one]
      have := tw_dw (p := notComma) l
      rw [hd, List.append_nil] at this
      exact this.symm
    split at h
    rotate_left
    · cases h
    rename_i hd h32
    cases hs : splitL n (l.dropWhile notComma).tail.tail with
    | none => rw [hs] at h; cases h
    | some qs =>
      rw [hs] at h
      cases h
      obtain ⟨hne, hj, hall⟩ := ih _ _ hs
      cases qs with
      | nil => exact absurd rfl hne
      | cons q qs =>
        refine ⟨by simp, ?_, fun p hp => ?_⟩
        · rw [join_more, ← hj]
          cases hdd : l.dropWhile notComma with
          | nil => exact absurd hdd hd
          | cons x t =>
            have hx := dw_head hdd
            have hx : x = 44 := Decidable.byContradiction fun e => by rw [(comma_iff x).2 e] at hx; cases hx
            rw [hdd, List.tail_cons] at h32
            cases t with
            | nil => cases h32
            | cons y t =>
              rw [List.head?_cons] at h32
              cases h32
              subst hx
              have := tw_dw (p := notComma) l
              rw [hdd] at this
              simp only [List.tail_cons, List.append_assoc]
              exact this.symm
        · rcases List.mem_cons.1 hp with e | e
          · rw [e]; exact ht
          · exact hall p e

theorem tw_gap {x r : List UInt8} (h : x.all notComma = true) : (x ++ gap ++ r).takeWhile notComma = x ∧ (x ++ gap ++ r).dropWhile notComma = gap ++ r := by
  rw [List.append_assoc]
  have h1 := tw_append (p := notComma) (l := x) (m := gap ++ r) h
  rw [h1.1, h1.2]
  simp [gap, show notComma 44 = false by decide]

theorem join_split : ∀ (ps : List (List UInt8)) (n : Nat), ps ≠ [] → (∀ p ∈ ps, isTyR p = true) → (Lib.join ps gap).length < n → splitL n (Lib.join ps gap) = some ps := by
  intro ps
  induction ps with
  | nil => intro n h; exact absurd rfl h
  | cons x r ih =>
    intro n _ hall hn
    have hx := hall x (by simp)
    have hxc := ty_comma hx
    cases n with
    | zero => omega
    | succ n =>
      cases r with
      | nil =>
        rw [Lib.join_one]
        obtain ⟨h1, h2⟩ := tw_all hxc
        rw [splitL, h1, h2, if_neg (by rw [hx]; decide), if_pos rfl]
      | cons y r =>
        rw [join_more] at hn ⊢
        obtain ⟨h1, h2⟩ := tw_gap (x := x) (r := Lib.join (y :: r) gap) hxc
        rw [splitL, h1, h2, if_neg (by rw [hx]; decide), if_neg (by simp), if_pos (by simp)]
        simp only [List.cons_append, List.nil_append, List.tail_cons]
        rw [ih n (by simp) (fun p hp => hall p (by simp at hp ⊢; exact .inr hp)) (by simp only [List.length_append, List.length_cons, List.length_nil] at hn; omega)]
        rfl

/-! ### The program's parts -/
theorem index_at {s sub : List UInt8} {i : Nat} (h : Lib.index s sub = i) : s.take i ++ sub ++ s.drop (i + sub.length) = s := by
  rcases Lib.index_spec s sub with ⟨h1, _⟩ | ⟨j, h1, _, ho, _⟩
  · omega
  · obtain rfl : j = i := by omega
    unfold Lib.occAt at ho
    obtain ⟨t, ht⟩ := List.isPrefixOf_iff_prefix.1 ho
    have e : t = s.drop (j + sub.length) := by rw [← List.drop_drop, ← ht, List.drop_left]
    rw [← e, List.append_assoc, ht, List.take_append_drop]
theorem index_no : ∀ {p : List UInt8}, p.all notComma = true → Lib.index p gap = -1
  | [], _ => rfl
  | b :: l, h => by
    rw [List.all_cons, Bool.and_eq_true] at h
    have hb := (comma_iff b).1 h.1
    unfold Lib.index
    rw [if_neg (by simp [List.isPrefixOf]; intro e; exact absurd e.symm hb), index_no h.2]
    rfl
theorem index_yes : ∀ {p : List UInt8} (r : List UInt8), p.all notComma = true → Lib.index (p ++ gap ++ r) gap = (p.length : Int)
  | [], r, _ => by
    show Lib.index (44 :: 32 :: r) gap = 0
    unfold Lib.index
    rw [if_pos (by simp [List.isPrefixOf])]
  | b :: l, r, h => by
    rw [List.all_cons, Bool.and_eq_true] at h
    have hb := (comma_iff b).1 h.1
    have ih := index_yes r h.2
    show Lib.index (b :: (l ++ gap ++ r)) gap = _
    unfold Lib.index
    rw [if_neg (by simp [List.isPrefixOf]; intro e; exact absurd e.symm hb), ih, if_neg (by simp)]
    simp

theorem parts_back : ∀ (ps : List (List UInt8)) (k : Nat) (s : ByteArray), ps ≠ [] → (∀ p ∈ ps, p.all notComma = true) → ps.length ≤ k + 1 → s.data.toList = Lib.join ps gap →
    (Lib.splitB ⟨#[44, 32]⟩ 0 k s).map (·.data.toList) = ps := by
  intro ps
  induction ps with
  | nil => intro k s h; exact absurd rfl h
  | cons x r ih =>
    intro k s _ hall hk hs
    have hx := hall x (by simp)
    cases r with
    | nil =>
      rw [Lib.join_one] at hs
      rw [Lib.splitB_miss _ _ _ _ (by show Lib.index s.data.toList gap = -1; rw [hs]; exact index_no hx)]
      simp [hs]
    | cons y r =>
      cases k with
      | zero => simp at hk
      | succ k =>
        rw [join_more] at hs
        have hi : Lib.indexB s ⟨#[44, 32]⟩ = (x.length : Int) := by
          show Lib.index s.data.toList gap = _
          rw [hs]; exact index_yes _ hx
        rw [Lib.splitB_hit _ _ _ _ _ hi, List.map_cons]
        have e1 : (s.extract 0 (x.length + 0)).data.toList = x := by
          rw [front_extract, hs, Nat.add_zero]; simp
        have e2 : (s.extract (x.length + (⟨#[44, 32]⟩ : ByteArray).size) s.size).data.toList = Lib.join (y :: r) gap := by
          rw [back_extract, hs, show (⟨#[44, 32]⟩ : ByteArray).size = 2 from rfl, show x.length + 2 = (x ++ gap).length by simp, List.drop_left']
          rfl
        rw [e1, ih k _ (by simp) (fun p hp => hall p (by simp at hp ⊢; exact .inr hp)) (by simp at hk ⊢; omega) e2]

theorem splitB_join : ∀ (k : Nat) (s : ByteArray), Lib.splitB ⟨#[44, 32]⟩ 0 k s ≠ [] ∧ Lib.join ((Lib.splitB ⟨#[44, 32]⟩ 0 k s).map (·.data.toList)) gap = s.data.toList := by
  intro k
  induction k with
  | zero => intro s; exact ⟨by simp [Lib.splitB], by simp [Lib.splitB, Lib.join_one]⟩
  | succ k ih =>
    intro s
    rcases Lib.indexB_cases s ⟨#[44, 32]⟩ with h | ⟨i, h, hr⟩
    · rw [Lib.splitB_miss _ _ _ _ h]
      exact ⟨by simp, by simp [Lib.join_one]⟩
    · rw [Lib.splitB_hit _ _ _ _ _ h]
      refine ⟨by simp, ?_⟩
      obtain ⟨hne, hj⟩ := ih (s.extract (i + (⟨#[44, 32]⟩ : ByteArray).size) s.size)
      cases hq : Lib.splitB ⟨#[44, 32]⟩ 0 k (s.extract (i + (⟨#[44, 32]⟩ : ByteArray).size) s.size) with
      | nil => exact absurd hq hne
      | cons y r =>
        rw [hq] at hj
        rw [List.map_cons] at hj
        rw [List.map_cons, List.map_cons, join_more, hj, front_extract, back_extract, Nat.add_zero]
        have hat := index_at (s := s.data.toList) (sub := gap) (i := i) h
        rw [show (⟨#[44, 32]⟩ : ByteArray).size = 2 from rfl]
        exact hat

end Go.Proofs.YtiofnjnaleglgaaGreatDoor

/-
  What the reference's 'Split' says of a string, as a plain function, and that the program's parts say the same.
-/
namespace Go.Proofs.YtiofnjnaleglgaaGreatDoor
open Go.RowKit

/-- The reference's 'Split'. -/
def splitR (l : List UInt8) : Option (List (List UInt8)) :=
  if 2 ≤ l.length ∧ l.head? = some 40 ∧ l.getLast? = some 41 then (if l.tail.dropLast = [] then some [] else splitL (l.tail.dropLast.length + 1) l.tail.dropLast) else none

theorem inner_iff (l : List UInt8) : splitInner l = if 2 ≤ l.length ∧ l.head? = some 40 ∧ l.getLast? = some 41 then some l.tail.dropLast else none := by
  cases l with
  | nil => rfl
  | cons c t =>
    by_cases hc : c = 40
    · subst hc
      have hp : Lib.hasPrefix (40 :: t) [40] = true := by simp [Lib.hasPrefix]
      have ht : Lib.trimPrefix (40 :: t) [40] = t := by rw [Lib.trimPrefix, if_pos hp]; rfl
      unfold splitInner
      rw [hp, ht]
      by_cases hs : t.getLast? = some 41
      · obtain ⟨inner, rfl⟩ := List.getLast?_eq_some_iff.1 hs
        have h2 : Lib.hasSuffix (inner ++ [41]) [41] = true := by rw [Lib.hasSuffix, List.isSuffixOf_iff_suffix]; exact ⟨inner, rfl⟩
        have h3 : Lib.trimSuffix (inner ++ [41]) [41] = inner := by rw [Lib.trimSuffix, if_pos h2]; simp
        have h4 : (40 :: (inner ++ [41])).getLast? = some (41 : UInt8) := by rw [last_cons (by simp)]; exact hs
        rw [if_pos ⟨rfl, h2⟩, h3, if_pos ⟨by simp, rfl, h4⟩, List.tail_cons, List.dropLast_concat]
      · have h2 : ¬ Lib.hasSuffix t [41] = true := by
          rw [Lib.hasSuffix, List.isSuffixOf_iff_suffix]
          rintro ⟨x, rfl⟩
          exact hs List.getLast?_concat
        rw [if_neg (fun h => h2 h.2), if_neg]
        rintro ⟨h1, _, h3⟩
        cases t with
        | nil => simp at h1
        | cons a t => exact hs (by rw [← h3]; exact (last_cons (by simp)).symm)
    · rw [splitInner, if_neg, if_neg]
      · rintro ⟨_, h, _⟩
        exact hc (Option.some.inj h)
      · rintro ⟨h, _⟩
        rw [Lib.hasPrefix] at h
        simp [List.isPrefixOf] at h
        exact hc h.symm

theorem parts_yes {l : List UInt8} (h : partsOk l = true) : splitL (l.length + 1) l = some ((splitParts l).map (·.data.toList)) ∧ (splitParts l).length ≤ 100 := by
  unfold partsOk at h
  rw [Bool.and_eq_true, decide_eq_true_iff, List.all_eq_true] at h
  obtain ⟨hne, hj⟩ := splitB_join (min 101 (l.length + 1) - 1) ⟨l.toArray⟩
  have hj' : Lib.join ((splitParts l).map (·.data.toList)) gap = l := hj
  refine ⟨?_, h.1⟩
  have := join_split ((splitParts l).map (·.data.toList)) (l.length + 1) (fun e => hne (List.map_eq_nil_iff.1 e)) (fun p hp => by
    obtain ⟨s, hs, rfl⟩ := List.mem_map.1 hp
    rw [← isTy_isTyR]
    exact h.2 s hs) (by rw [hj']; omega)
  rw [hj'] at this
  exact this

theorem split_agree (l : List UInt8) : (partsOk l = true ∧ splitL (l.length + 1) l = some ((splitParts l).map (·.data.toList)) ∧ (splitParts l).length ≤ 100) ∨
    (partsOk l = false ∧ (splitL (l.length + 1) l = none ∨ ∃ ps, splitL (l.length + 1) l = some ps ∧ 100 < ps.length)) := by
  cases hp : partsOk l
  · refine .inr ⟨rfl, ?_⟩
    cases hs : splitL (l.length + 1) l with
    | none => exact .inl rfl
    | some ps =>
      refine .inr ⟨ps, rfl, Nat.lt_of_not_le fun hle => ?_⟩
      obtain ⟨hne, hj, hall⟩ := split_join _ _ _ hs
      have hlen := join_len ps
      rw [← hj] at hlen
      have hb : (splitParts l).map (·.data.toList) = ps := parts_back ps (min 101 (l.length + 1) - 1) ⟨l.toArray⟩ hne (fun p hp => ty_comma (hall p hp)) (by omega) (by simpa using hj)
      have hyes : partsOk l = true := by
        unfold partsOk
        rw [Bool.and_eq_true, decide_eq_true_iff, List.all_eq_true]
        refine ⟨?_, fun s hs => ?_⟩
        · have := congrArg List.length hb
          rw [List.length_map] at this
          omega
        · rw [isTy_isTyR]
          exact hall _ (hb ▸ List.mem_map.2 ⟨s, hs, rfl⟩)
      rw [hp] at hyes
      cases hyes
  · exact .inl ⟨rfl, parts_yes hp⟩
end Go.Proofs.YtiofnjnaleglgaaGreatDoor

/-
  The reference's 'Split' by its contract.
-/
namespace Go.Proofs.YtiofnjnaleglgaaGreatDoor
open Go.RowKit

theorem info_str : ∃ i, Tryz.prog.info? 9 = some i ∧ i.zero = some (.string ⟨#[]⟩) ∧ i.size = 1 ∧ i.bytes = 16 := by
  have h1 : (Tryz.prog.info? 9).map (·.zero) = some (some (.string ⟨#[]⟩)) := by kernel_rfl
  have h2 : (Tryz.prog.info? 9).map (·.size) = some 1 := by kernel_rfl
  have h3 : (Tryz.prog.info? 9).map (·.bytes) = some 16 := by kernel_rfl
  cases hi : Tryz.prog.info? 9 with
  | none => rw [hi] at h1; cases h1
  | some i =>
    rw [hi] at h1 h2 h3
    exact ⟨i, rfl, Option.some.inj h1, Option.some.inj h2, Option.some.inj h3⟩

/-- One string is appended to a slice of the call's own. -/
theorem append_str_run {w : World} {B : Nat} {ao : Option Addr} {c : Nat} {ps : List ByteArray} (h : w.ownsRow B 9 1 (.slice ao ps.length c) ps.length (ps.map .string)) (hB : B ≤ w.heap.size) (h3 : ps.length ≤ 2000000) (x : ByteArray) (T : TypeId) {ty : TypeId} :
    ∃ ao' c' w', (Builtin.append_ #[27, 27] ty #[.slice ao ps.length c, .slice (some ⟨w.heap.size, 0, none⟩) 1 1]).run Tryz.prog (w.alloc (.cells #[.string x] T)) = .ok (.slice ao' (ps.length + 1) c') w' ∧
      w'.ownsRow B 9 1 (.slice ao' (ps ++ [x]).length c') (ps ++ [x]).length ((ps ++ [x]).map .string) ∧ Below B w w' ∧ w.heap.size ≤ w'.heap.size := by
  obtain ⟨i, hi, hz, hsz, hby⟩ := info_str
  have hown : (w.alloc (.cells #[.string x] T)).ownsRow B 9 1 (.slice ao ps.length c) ps.length (ps.map .string) := by
    refine ⟨h.1, ?_⟩
    rcases h.2 with h | ⟨g, c', cur, hv, hb, hg, hr⟩
    · exact .inl h
    · exact .inr ⟨g, c', cur, hv, hb, (Below.heap_alloc _ _ _ (lt_of_block hg)).trans hg, hr⟩
  have hcell : ∀ j u, [Value.string x][j]? = some u → (w.alloc (.cells #[.string x] T)).cell? ((⟨w.heap.size, 0, none⟩ : Addr).add j) = some u := by
    intro j u hj
    cases j with
    | zero =>
      simp only [List.getElem?_cons_zero, Option.some.injEq] at hj
      subst hj
      rw [Addr.add_lit, cell_of_row _ _ _ _ _ _ (heap_alloc_new _ _)]
      rfl
    | succ j => simp at hj
  obtain ⟨v', w', hr, h1, h2, _, h4⟩ := run_append_own_at (P := Tryz.prog) (w.alloc (.cells #[.string x] T)) B 27 ty 9 i (.string ⟨#[]⟩) 1 16 Tryz.underlying27 hi hz hsz hby rfl (by decide)
    (.slice ao ps.length c) ps.length (ps.map .string) hown ⟨w.heap.size, 0, none⟩ 1 1 [.string x] rfl hcell (fun u hu => by simp only [List.mem_singleton] at hu; subst hu; rfl) (by simp only [maxLen]; omega) (by omega) (by simp; omega)
  obtain ⟨ao', c', rfl⟩ := own_slice h1
  refine ⟨ao', c', w', hr, ?_, ?_, ?_⟩
  · rw [List.length_append, List.map_append]
    exact h1
  · refine ⟨h2.os.trans rfl, h2.tape.trans rfl, h2.output.trans rfl, ?_, fun k hk => ?_⟩
    · have := h2.size; simp at this; omega
    · rw [h2.block k (by simp; omega) (fun e => by
        have := own_below hown e.symm
        omega)]
      exact Below.heap_alloc _ _ _ (by omega)
  · have := h2.size; simp at this; omega

theorem wp_append_str {ops : Array Oper} {rest : List Oper} {o : Oper} {a : Act} {Q : Exit → Act → World → Prop} {w : World} (hgd : o.guard = none) (s x : Operand)
    (ho : o.op = .call { callee := .builtin .append, args := #[s, x], argTypes := #[27, 27] }) {B : Nat} {ao : Option Addr} {c : Nat} {ps : List ByteArray} {n : ByteArray}
    (h : w.ownsRow B 9 1 (.slice ao ps.length c) ps.length (ps.map .string)) (hB : B ≤ w.heap.size) (h3 : ps.length ≤ 2000000) (hs : a.eval s = .slice ao ps.length c) (hx : a.eval x = .slice (some ⟨w.heap.size, 0, none⟩) 1 1)
    (hk : ∀ ao' c' w', w'.ownsRow B 9 1 (.slice ao' (ps ++ [n]).length c') (ps ++ [n]).length ((ps ++ [n]).map .string) → Below B w w' → wpList Tryz.prog ops Q rest (a.put o.dst (.slice ao' (ps.length + 1) c')) w') :
    wpList Tryz.prog ops Q (o :: rest) a (w.alloc (.cells #[.string n] 9)) := by
  obtain ⟨ao', c', w', hr, h1, h2, _⟩ := append_str_run (ty := o.type) h hB h3 n 9
  refine wpList_plain hgd fun K hK => ?_
  unfold Oper.wp execOp
  simp only [ho, resolve, invoke, builtin, Sem.run_bind, Sem.run_pure, Result.andThen_ok, List.map_toArray, List.map_cons, List.map_nil, hs, hx, hr]
  exact hK _ _ (hk ao' c' w' h1 h2)

theorem own_strs {w : World} {B n : Nat} {ao : Option Addr} {c : Nat} {ps : List ByteArray} (h : w.ownsRow B 9 1 (.slice ao n c) n (ps.map .string)) (hn : n = ps.length) : StrsAt w ao ps := by
  rcases h.2 with ⟨_, h0⟩ | ⟨g, c', cur, hv, _, hg, _, _, _, hcur⟩
  · rw [h0] at hn
    exact .inl (List.eq_nil_of_length_eq_zero hn.symm)
  · cases hv
    refine .inr ⟨_, rfl, fun j hj => ?_⟩
    have h1 : (cur.toList.take (n * 1))[j]? = some (.string (ps[j]?.getD ByteArray.empty)) := by
      rw [hcur, List.getElem?_map, List.getElem?_eq_getElem hj]; rfl
    rw [List.getElem?_take_of_lt (by omega)] at h1
    rw [Addr.add_lit, cell_of_row _ _ _ _ _ _ hg]
    simpa using h1

def SplitRPost (s : ByteArray) (w : World) (e : Ending) (w' : World) : Prop :=
  Below w.heap.size w w' ∧ ((splitR s.data.toList = none ∧ e = .returned (.tuple #[.slice none 0 0, .bool false])) ∨
    ∃ (ps : List ByteArray) (ao : Option Addr) (c : Nat), splitR s.data.toList = some (ps.map (·.data.toList)) ∧ StrsAt w' ao ps ∧ e = .returned (.tuple #[.slice ao ps.length c, .bool (decide (ps.length ≤ 100))]))
theorem splitR_end {s : ByteArray} {w w' : World} (h : splitR s.data.toList = none) (hb : Below w.heap.size w w') : SplitRPost s w (.returned (.tuple #[.slice none 0 0, .bool false])) w' := ⟨hb, .inl ⟨h, rfl⟩⟩

/-- What the reference's 'Split' holds between two rounds. -/
structure SSt (w : World) (l0 : List UInt8) (ps : List ByteArray) (q : ByteArray) (ao : Option Addr) (c : Nat) (wr : World) : Prop where
  own : wr.ownsRow w.heap.size 9 1 (.slice ao ps.length c) ps.length (ps.map .string)
  bel : Below w.heap.size w wr
  way : ∃ n, q.size < n ∧ splitL (l0.length + 1) l0 = (splitL n q.data.toList).map (ps.map (·.data.toList) ++ ·)
  few : ps.length + q.size ≤ 1048576
  more : 0 < q.size ∨ 0 < ps.length

theorem stop_at {p : UInt8 → Bool} {q : ByteArray} {m : Nat} (h : (q.data.toList.take m).all p = true) (hm : m < q.size) (hx : p (q[m]'hm) = false) :
    q.data.toList.takeWhile p = q.data.toList.take m ∧ q.data.toList.dropWhile p = q[m]'hm :: q.data.toList.drop (m + 1) := by
  have hl : m < q.data.toList.length := by simpa using hm
  have hcat : q.data.toList = q.data.toList.take m ++ q[m]'hm :: q.data.toList.drop (m + 1) := by
    conv => lhs; rw [← List.take_append_drop m q.data.toList, List.drop_eq_getElem_cons hl]
    rfl
  obtain ⟨h1, h2⟩ := tw_append (p := p) (m := q[m]'hm :: q.data.toList.drop (m + 1)) h
  rw [← hcat] at h1 h2
  simp only [List.takeWhile_cons, hx, List.dropWhile_cons, List.append_nil, Bool.false_eq_true, if_false] at h1 h2
  exact ⟨h1, h2⟩
theorem all_step {p : UInt8 → Bool} {s : ByteArray} {m : Nat} (h : (s.data.toList.take m).all p = true) (hm : m < s.size) (hp : p (s[m]'hm) = true) : (s.data.toList.take (m + 1)).all p = true := by
  have hl : m < s.data.toList.length := by simpa using hm
  rw [take_snoc hl, all_snoc, h, Bool.true_and]
  exact hp

section
variable {w : World} {l0 : List UInt8} {ps : List ByteArray} {q : ByteArray} {ao : Option Addr} {c : Nat} {wr : World}
theorem SSt.start (hq : q.size ≤ 1048576) (h0 : 0 < q.size) : SSt w q.data.toList [] q none 0 w :=
  ⟨⟨rfl, .inl ⟨rfl, rfl⟩⟩, Below.refl _ _, ⟨q.data.toList.length + 1, by simp, by simp⟩, by simpa using hq, .inl h0⟩
theorem SSt.notTy (h : SSt w l0 ps q ao c wr) (ht : isTyR (q.data.toList.takeWhile notComma) = false) : splitL (l0.length + 1) l0 = none := by
  obtain ⟨n, hn, e⟩ := h.way
  obtain ⟨k, rfl⟩ : ∃ k, n = k + 1 := ⟨n - 1, by omega⟩
  rw [e, splitL, if_pos ht]
  rfl
theorem SSt.noGap (h : SSt w l0 ps q ao c wr) (hd : ¬ q.data.toList.dropWhile notComma = []) (h32 : ¬ (q.data.toList.dropWhile notComma).tail.head? = some 32) : splitL (l0.length + 1) l0 = none := by
  obtain ⟨n, hn, e⟩ := h.way
  obtain ⟨k, rfl⟩ : ∃ k, n = k + 1 := ⟨n - 1, by omega⟩
  rw [e, splitL, if_neg hd, if_neg h32, ite_self]
  rfl
theorem SSt.last (h : SSt w l0 ps q ao c wr) (ht : isTyR q.data.toList = true) (ha : q.data.toList.all notComma = true) : splitL (l0.length + 1) l0 = some ((ps ++ [q]).map (·.data.toList)) := by
  obtain ⟨n, hn, e⟩ := h.way
  obtain ⟨k, rfl⟩ : ∃ k, n = k + 1 := ⟨n - 1, by omega⟩
  obtain ⟨h1, h2⟩ := tw_all ha
  rw [e, splitL, h1, h2, if_neg (by rw [ht]; decide), if_pos rfl]
  simp
theorem SSt.next (h : SSt w l0 ps q ao c wr) {m : Nat} (hm : m + 1 < q.size) (hst : q.data.toList.takeWhile notComma = q.data.toList.take m ∧ q.data.toList.dropWhile notComma = q[m]'(by omega) :: q.data.toList.drop (m + 1))
    (ht : isTyR (q.data.toList.take m) = true) (h32 : q[m + 1]'hm = 32) {ao' : Option Addr} {c' : Nat} {w2 : World}
    (hown : w2.ownsRow w.heap.size 9 1 (.slice ao' (ps ++ [q.extract 0 m]).length c') (ps ++ [q.extract 0 m]).length ((ps ++ [q.extract 0 m]).map .string)) (hb : Below w.heap.size wr w2) :
    SSt w l0 (ps ++ [q.extract 0 m]) (q.extract (m + 2) q.size) ao' c' w2 := by
  have hl : m + 1 < q.data.toList.length := by simpa using hm
  have hd : q.data.toList.drop (m + 1) = 32 :: q.data.toList.drop (m + 2) := by
    rw [List.drop_eq_getElem_cons hl]
    exact congrArg (· :: _) h32
  refine ⟨hown, h.bel.trans hb, ?_, ?_, .inr (by simp)⟩
  · obtain ⟨n, hn, e⟩ := h.way
    obtain ⟨k, rfl⟩ : ∃ k, n = k + 1 := ⟨n - 1, by omega⟩
    refine ⟨k, by rw [ByteArray.size_extract]; omega, ?_⟩
    rw [e, splitL, hst.1, hst.2, if_neg (by rw [ht]; decide), if_neg (by simp), List.tail_cons, hd, List.head?_cons, if_pos rfl, List.tail_cons, back_extract, List.map_append, List.map_singleton, front_extract]
    cases splitL k (q.data.toList.drop (m + 2)) with
    | none => rfl
    | some z => simp
  · have := h.few
    rw [ByteArray.size_extract, List.length_append, List.length_singleton]
    omega
end

theorem own_under {w w' : World} {B n : Nat} {e : TypeId} {v : Value} {xs : List Value} (h : w.ownsRow B e 1 v n xs) (hb : Below w.heap.size w w') : w'.ownsRow B e 1 v n xs := by
  refine ⟨h.1, ?_⟩
  rcases h.2 with h | ⟨g, c', cur, hv, hB, hg, hr⟩
  · exact .inl h
  · exact .inr ⟨g, c', cur, hv, hB, (hb.block _ (lt_of_block hg)).trans hg, hr⟩
theorem SSt.under {w : World} {l0 : List UInt8} {ps : List ByteArray} {q : ByteArray} {ao : Option Addr} {c : Nat} {wr w2 : World} (h : SSt w l0 ps q ao c wr) (hb : Below wr.heap.size wr w2) : SSt w l0 ps q ao c w2 :=
  ⟨own_under h.own hb, h.bel.trans (hb.mono h.bel.size), h.way, h.few, h.more⟩
theorem SSt.empty {w : World} {l0 : List UInt8} {ps : List ByteArray} {q : ByteArray} {ao : Option Addr} {c : Nat} {wr : World} (h : SSt w l0 ps q ao c wr) : q.toList.isEmpty = false ∨ (q.toList.isEmpty = true ∧ 0 < ps.length) := by
  cases hq : q.toList.isEmpty
  · exact .inl rfl
  · refine .inr ⟨rfl, h.more.resolve_left fun h0 => ?_⟩
    have he := empty_of hq
    rw [size_eq, he] at h0
    exact absurd h0 (Nat.lt_irrefl _)
theorem splitR_yes {s : ByteArray} {ps : List ByteArray} {x : ByteArray} {w w' : World} {ao : Option Addr} {c : Nat} {b : Bool} (h : splitR s.data.toList = some ((ps ++ [x]).map (·.data.toList))) (hb : Below w.heap.size w w') (hst : StrsAt w' ao (ps ++ [x]))
    (h1 : decide (ps.length + 1 ≤ 100) = b) : SplitRPost s w (.returned (.tuple #[.slice ao (ps.length + 1) c, .bool b])) w' :=
  ⟨hb, .inr ⟨ps ++ [x], ao, c, h, hst, by rw [List.length_append, List.length_singleton, h1]⟩⟩
theorem last_at {s : ByteArray} (h : s.size - 1 < s.size) : s.data.toList.getLast? = some (s[s.size - 1]'h) := by
  have hl : s.data.toList.length - 1 < s.data.toList.length := by simpa using h
  rw [List.getLast?_eq_getElem?, List.getElem?_eq_getElem hl]
  rfl
theorem inner_extract (s : ByteArray) : (s.extract 1 (s.size - 1)).data.toList = s.data.toList.tail.dropLast := by
  have hl : s.data.toList.length = s.size := by simp
  rw [extract_toList, List.dropLast_eq_take, List.length_tail, ← List.drop_one, List.drop_take, hl]
theorem byte_ne {c x : UInt8} {y : Int} (hx : (x.toNat : Int) = y) (h : ((c.toNat : Int) != y) = true) : ¬ c = x := by
  rintro rfl
  rw [bne_iff_ne] at h
  exact h hx
theorem byte_is {c x : UInt8} {y : Int} (hx : (x.toNat : Int) = y) (h : ((c.toNat : Int) != y) = false) : c = x := by
  refine UInt8.toNat_inj.1 ?_
  have : (c.toNat : Int) = y := by simpa using h
  omega
theorem notComma_at {c : UInt8} {b : Bool} (h : ((c.toNat : Int) != 44) = b) : notComma c = b := by
  unfold notComma bIs
  exact h

set_option maxHeartbeats 16000000 in
set_option maxRecDepth 100000 in
theorem SplitR_any (s : ByteArray) (hs : s.size ≤ 1048576) (w : World) : Calls Tryz.prog 62 #[.string s] w (SplitRPost s w) := by
  by_cases h2 : s.size < 2
  · have hr := Lib.hid (show splitR s.data.toList = none by rw [splitR, if_neg (by intro h; have := h.1; simp at this; omega)])
    go_enter Tryz.func62, Tryz.ntmps62
    go_wp2_with fail
    go_ret2
    exact splitR_end hr.out (Below.refl _ _)
  have h0 : 0 < s.size := by omega
  have hlast : s.size - 1 < s.size := by omega
  have h2i : 2 ≤ (s.size : Int) := by omega
  have h2d : decide ((s.size : Int) < 2) = false := decide_eq_false (by omega)
  cases hb0 : (((s[0]'h0).toNat : Int) != 40)
  rotate_left
  · have hr := Lib.hid (show splitR s.data.toList = none by
      rw [splitR, if_neg]
      rintro ⟨_, h, _⟩
      rw [head_at s h0] at h
      exact byte_ne (x := 40) (by decide) hb0 (Option.some.inj h))
    go_enter Tryz.func62, Tryz.ntmps62
    go_wp2_with fail
    go_ret2
    exact splitR_end hr.out (Below.refl _ _)
  cases hb1 : (((s[s.size - 1]'hlast).toNat : Int) != 41)
  rotate_left
  · have hr := Lib.hid (show splitR s.data.toList = none by
      rw [splitR, if_neg]
      rintro ⟨_, _, h⟩
      rw [last_at hlast] at h
      exact byte_ne (x := 41) (by decide) hb1 (Option.some.inj h))
    go_enter Tryz.func62, Tryz.ntmps62
    go_wp2_with fail
    go_ret2
    exact splitR_end hr.out (Below.refl _ _)
  have hin := inner_extract s
  have hsp : splitR s.data.toList = if (s.extract 1 (s.size - 1)).data.toList = [] then some [] else splitL ((s.extract 1 (s.size - 1)).data.toList.length + 1) (s.extract 1 (s.size - 1)).data.toList := by
    rw [splitR, if_pos ⟨by simp; omega, by rw [head_at s h0, byte_is (x := 40) (by decide) hb0], by rw [last_at hlast, byte_is (x := 41) (by decide) hb1]⟩, hin]
  clear hin
  have hqs : (s.extract 1 (s.size - 1)).size ≤ 1048576 := by rw [ByteArray.size_extract]; omega
  by_cases hq0 : (s.extract 1 (s.size - 1)).size = 0
  · have hr := Lib.hid (show splitR s.data.toList = some [] by
      rw [hsp, if_pos (by rw [size_eq] at hq0; exact List.eq_nil_of_length_eq_zero hq0)])
    have HQ := Lib.hid hq0
    clear hsp hq0 hqs
    go_enter Tryz.func62, Tryz.ntmps62
    go_wp2_with fail
    go_loopw [0, 4] (fun q o wr => ∃ q' : ByteArray, q = .string q' ∧ o = .slice none 0 0 ∧ Hid (q'.size = 0) ∧ wr = w) (fun q _ _ => strLen q)
    case atStart => exact ⟨_, rfl, rfl, HQ, rfl⟩
    case round =>
      obtain ⟨q, rfl, rfl, hq, rfl⟩ := hrel
      cases hqe : q.toList.isEmpty
      · have := nonempty_of hqe
        have h := hq.out
        rw [size_eq] at h
        exact absurd (List.eq_nil_of_length_eq_zero h) this
      · go_wp2_with fail
        go_ret2
        exact ⟨Below.refl _ _, .inr ⟨[], none, 0, hr.out, .inl rfl, rfl⟩⟩
  · rw [if_neg (fun e => hq0 (by rw [size_eq, e]; rfl))] at hsp
    have hst : Hid (SSt w (s.extract 1 (s.size - 1)).data.toList [] (s.extract 1 (s.size - 1)) none 0 w) := SSt.start hqs (by omega)
    obtain ⟨l0, hl0⟩ : ∃ l0, l0 = (s.extract 1 (s.size - 1)).data.toList := ⟨_, rfl⟩
    rw [← hl0] at hst hsp
    have HSP := Lib.hid hsp
    clear hl0 hsp hq0 hqs
    go_enter Tryz.func62, Tryz.ntmps62
    go_wp2_with fail
    go_loopw [0, 4] (fun q o wr => ∃ (q' : ByteArray) (ps : List ByteArray) (ao : Option Addr) (cp : Nat), q = .string q' ∧ o = .slice ao ps.length cp ∧ Hid (SSt w l0 ps q' ao cp wr)) (fun q _ _ => strLen q)
    case atStart => exact ⟨_, [], none, 0, rfl, rfl, hst⟩
    case round =>
      clear hst
      obtain ⟨q, ps, ao, cp, rfl, rfl, HS⟩ := hrel
      have hfew := HS.out.few
      rcases HS.out.empty with hqe | ⟨hqe, hps⟩
      all_goals
        go_wp2_with fail
        go_loopw [5] (fun i w2 => ∃ m : Nat, m ≤ q.size ∧ i = .int .i64 m ∧ Hid ((q.data.toList.take m).all notComma = true) ∧ w2 = wr) (fun i _ => q.size - (intOf i).toNat)
        case atStart => exact ⟨0, Nat.zero_le _, rfl, rfl, rfl⟩
        case round =>
          obtain ⟨m, hms, rfl, hall, rfl⟩ := hrel
          by_cases hlt : m < q.size
          · have hbm := (q[m]'hlt).toNat_lt
            cases hx : (((q[m]'hlt).toNat : Int) != 44)
            · have hst := Lib.hid (stop_at hall.out hlt (notComma_at hx))
              have hmne : ((m : Int) == (q.size : Int)) = false := by rw [beq_eq_false_iff_ne]; omega
              go_wp2_with fail
              refine (Is_ref _ (by rw [ByteArray.size_extract]; omega) _).mono ?_
              rintro e w2 ⟨rfl, hb2⟩
              have HS2 := Lib.hid (HS.out.under hb2)
              clear hb2
              rw [front_extract]
              cases hty : (readR (q.data.toList.take m)).isSome
              · have hy := Lib.hid (HSP.out.trans (HS.out.notTy (show isTyR (q.data.toList.takeWhile notComma) = false by rw [hst.out.1]; exact hty)))
                go_wp2_with fail
                go_ret2
                exact splitR_end hy.out HS2.out.bel
              · have HTY := Lib.hid hty
                by_cases hm1 : m + 1 < q.size
                · have hb32 := (q[m + 1]'hm1).toNat_lt
                  cases h32 : (((q[m + 1]'hm1).toNat : Int) != 32)
                  · have h32e := byte_is (x := 32) (by decide) h32
                    have H32 := Lib.hid h32e
                    clear h32e
                    go_wp2_with (at_builtin; refine wp_append_str rfl _ _ rfl HS2.out.own HS2.out.bel.size (by omega) rfl rfl ?_; intro ao' c' w3 hown hbel; have HOWN := Lib.hid hown; have HBEL := Lib.hid hbel; clear hown hbel)
                    go_roundw
                    case rel => exact ⟨_, ps ++ [q.extract 0 m], ao', c', rfl, by rw [List.length_append, List.length_singleton], HS2.out.next hm1 hst.out HTY.out H32.out HOWN.out HBEL.out⟩
                    case measure => simp only [strLen, ByteArray.size_extract]; omega
                  · have hy := Lib.hid (HSP.out.trans (HS.out.noGap (by rw [hst.out.2]; simp) (by
                      rw [hst.out.2, List.tail_cons, List.drop_eq_getElem_cons (by simpa using hm1), List.head?_cons]
                      exact fun h => byte_ne (x := 32) (by decide) h32 (Option.some.inj h))))
                    go_wp2_with (at_builtin; refine wp_append_str rfl _ _ rfl HS2.out.own HS2.out.bel.size (by omega) rfl rfl ?_; intro ao' c' w3 hown hbel; have HBEL := Lib.hid (HS2.out.bel.trans hbel); clear hown hbel)
                    go_ret2
                    exact splitR_end hy.out HBEL.out
                · have hy := Lib.hid (HSP.out.trans (HS.out.noGap (by rw [hst.out.2]; simp) (by
                    rw [hst.out.2, List.tail_cons, List.drop_of_length_le (by simp; omega)]
                    simp)))
                  go_wp2_with (at_builtin; refine wp_append_str rfl _ _ rfl HS2.out.own HS2.out.bel.size (by omega) rfl rfl ?_; intro ao' c' w3 hown hbel; have HBEL := Lib.hid (HS2.out.bel.trans hbel); clear hown hbel)
                  go_ret2
                  exact splitR_end hy.out HBEL.out
            · have hnx := Lib.hid (notComma_at hx)
              go_wp2_with fail
              go_roundw
              case rel => exact ⟨m + 1, by omega, by go_num, all_step hall.out hlt hnx.out, trivial⟩
              case measure => simp [intOf]; omega
          · obtain rfl : m = q.size := by omega
            have hal := hall.out
            rw [List.take_of_length_le (by simp)] at hal
            have HAL := Lib.hid hal
            clear hal
            go_wp2_with fail
            refine (Is_ref q (by omega) _).mono ?_
            rintro e w2 ⟨rfl, hb2⟩
            have HS2 := Lib.hid (HS.out.under hb2)
            clear hb2
            cases hty : (readR q.data.toList).isSome
            · have hy := Lib.hid (HSP.out.trans (HS.out.notTy (show isTyR (q.data.toList.takeWhile notComma) = false by rw [(tw_all HAL.out).1]; exact hty)))
              go_wp2_with fail
              go_ret2
              exact splitR_end hy.out HS2.out.bel
            · have hy := Lib.hid (HSP.out.trans (HS.out.last hty HAL.out))
              go_wp2_with (at_builtin; refine wp_append_str rfl _ _ rfl HS2.out.own HS2.out.bel.size (by omega) rfl rfl ?_; intro ao' c' w3 hown hbel; have HST := Lib.hid (own_strs hown rfl); have HBEL := Lib.hid (HS2.out.bel.trans hbel); clear hown hbel)
              go_ret2
              exact splitR_yes hy.out HBEL.out HST.out (by simp only [decide_eq_decide]; omega)

theorem SplitR_some (s : ByteArray) (hs : s.size ≤ 1048576) (w : World) : Calls Tryz.prog 62 #[.string s] w fun e w' => Below w.heap.size w w' ∧ ((splitR s.data.toList = none ∧ e = .returned (.tuple #[.slice none 0 0, .bool false])) ∨
    ∃ (ps : List ByteArray) (ao : Option Addr) (c : Nat), splitR s.data.toList = some (ps.map (·.data.toList)) ∧ StrsAt w' ao ps ∧ e = .returned (.tuple #[.slice ao ps.length c, .bool (decide (ps.length ≤ 100))])) := SplitR_any s hs w
end Go.Proofs.YtiofnjnaleglgaaGreatDoor

/-
  The law 'TypesLists': it answers true, whatever string of at most 1048576 bytes its argument is.
-/
namespace Go.Proofs.YtiofnjnaleglgaaGreatDoor
open Go.RowKit

/-- The types of a list of types; nothing: it is none. -/
def listR (l : List UInt8) : Option (List (List UInt8)) := (splitR l).bind fun ps => if ps.length ≤ 100 then some ps else none

theorem splitR_inner (l : List UInt8) : splitR l = (splitInner l).bind fun m => if m = [] then some [] else splitL (m.length + 1) m := by
  rw [inner_iff, splitR]
  split <;> rfl

theorem data_inj : ∀ {ps qs : List ByteArray}, ps.map (·.data.toList) = qs.map (·.data.toList) → ps = qs
  | [], [], _ => rfl
  | [], _ :: _, h => by cases h
  | _ :: _, [], h => by cases h
  | p :: ps, q :: qs, h => by
    rw [List.map_cons, List.map_cons] at h
    injection h with h1 h2
    rw [data_inj h2, show p = q by apply ByteArray.ext; exact Array.ext' h1]

/-- The program's 'Split' in the reference's words. -/
theorem Split_says (s : ByteArray) (hs : s.size < 4294967281) (w : World) (hE : Env w) : Calls Tryz.prog 127 #[.string s] w fun e w' => Below w.heap.size w w' ∧
    ((listR s.data.toList = none ∧ e = .returned (.tuple #[.slice none 0 0, .int .i64 10])) ∨
    ∃ (ps : List ByteArray) (ao : Option Addr) (c : Nat), listR s.data.toList = some (ps.map (·.data.toList)) ∧ ps.length ≤ 100 ∧ StrsAt w' ao ps ∧ e = .returned (.tuple #[.slice ao ps.length c, .int .i64 0])) := by
  have hl := splitR_inner s.data.toList
  cases hi : splitInner s.data.toList with
  | none =>
    rw [hi] at hl
    refine (Split_none s (by omega) hi w).mono fun e w' ⟨he, hw⟩ => ⟨hw ▸ Below.refl _ _, .inl ⟨by rw [listR, hl]; rfl, he⟩⟩
  | some l =>
    rw [hi, Option.bind_some] at hl
    refine (Split_some s hs l hi w hE).mono ?_
    rintro e w' ⟨hb, ⟨h0, he⟩ | ⟨h0, hp, he⟩ | ⟨h0, hp, ao, c, he, hst⟩⟩
    · rw [if_pos h0] at hl
      exact ⟨hb, .inr ⟨[], none, 0, by rw [listR, hl]; rfl, by simp, .inl rfl, he⟩⟩
    · rw [if_neg h0] at hl
      refine ⟨hb, .inl ⟨?_, he⟩⟩
      rcases split_agree l with ⟨h, _⟩ | ⟨_, h | ⟨ps, h, h100⟩⟩
      · rw [hp] at h; cases h
      · rw [listR, hl, h]; rfl
      · rw [listR, hl, h, Option.bind_some, if_neg (by omega)]
    · rw [if_neg h0] at hl
      obtain ⟨h, h100⟩ := parts_yes hp
      exact ⟨hb, .inr ⟨_, ao, c, by rw [listR, hl, h, Option.bind_some, if_pos (by rw [List.length_map]; exact h100)], h100, hst, he⟩⟩

theorem drawn_strings {B : Nat} {a w : World} (h : Below B a w) (n : Nat) : Below B a (w.drewN n) := ⟨h.os, h.tape, h.output, h.size, h.block⟩
end Go.Proofs.YtiofnjnaleglgaaGreatDoor

