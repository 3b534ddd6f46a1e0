/-
  The reference's 'Read' and 'Is' by contracts.
-/
import Derived.Test.YtjkhjflemcljdaaGreatDoorYB
import Derived.Test.YtjkhjflemcljdaaGreatDoorP
import Derived.Maps.AppendAt
namespace Go.Proofs.YtjkhjflemcljdaaGreatDoor
open Go.RowKit

/-! A struct of four cells. -/
theorem cells4 {w : World} {b : Nat} {t : TypeId} {v0 v1 v2 v3 : Value} (h : w.heap[b]? = some (.cells #[v0, v1, v2, v3] t (0, 0))) :
    w.cell? ⟨b, 0, none⟩ = some v0 ∧ w.cell? ⟨b, 1, none⟩ = some v1 ∧ w.cell? ⟨b, 2, none⟩ = some v2 ∧ w.cell? ⟨b, 3, none⟩ = some v3 ∧ ∀ j, w.frozen? ⟨b, j, none⟩ = false := by
  refine ⟨?_, ?_, ?_, ?_, fun j => ?_⟩ <;> simp [World.cell?, World.frozen?, h]
theorem set4_block {w : World} {b : Nat} {t : TypeId} {v0 v1 v2 v3 u0 u1 u2 u3 : Value} (h : w.heap[b]? = some (.cells #[v0, v1, v2, v3] t (0, 0))) :
    ((((w.setCell ⟨b, 0, none⟩ u0).setCell ⟨b, 1, none⟩ u1).setCell ⟨b, 2, none⟩ u2).setCell ⟨b, 3, none⟩ u3).heap[b]? = some (.cells #[u0, u1, u2, u3] t (0, 0)) := by
  have h0 := heap_setCell_same _ b 0 _ t u0 h
  have h1 := heap_setCell_same _ b 1 _ t u1 h0
  have h2 := heap_setCell_same _ b 2 _ t u2 h1
  have h3 := heap_setCell_same _ b 3 _ t u3 h2
  rw [h3]
  rfl
theorem set4_below {B b : Nat} {w0 w : World} {u0 u1 u2 u3 : Value} (hg : Below B w0 w) (hb : B ≤ b) :
    Below B w0 ((((w.setCell ⟨b, 0, none⟩ u0).setCell ⟨b, 1, none⟩ u1).setCell ⟨b, 2, none⟩ u2).setCell ⟨b, 3, none⟩ u3) :=
  (((hg.setCell hb _).setCell hb _).setCell hb _).setCell hb _
theorem tVar {w : World} {b : Nat} {v0 v1 v2 v3 : Value} (h : w.heap[b]? = some (.cells #[v0, v1, v2, v3] 24 (0, 0))) :
    (loadVar 24 ⟨b, 0, none⟩).run Tryz.prog w = .ok (.agg #[v0, v1, v2, v3]) w :=
  run_loadVar_row w b _ _ _ _ _ h Tryz.underlying24 rfl (by kernel_rfl)

def ReadRPost (s : ByteArray) (w : World) (e : Ending) (w' : World) : Prop :=
  Below w.heap.size w w' ∧ ((readR s.data.toList = none ∧ ∃ T : Int, e = .returned (.tuple #[.agg #[.int .i64 T, .int .i64 0, .slice none 0 0, .string ⟨#[]⟩], .bool false])) ∨
    ∃ (k b : Int) (es : List Int) (el : ByteArray) (ao : Option Addr) (c : Nat), readR s.data.toList = some (k, b, es, el.data.toList) ∧ IntsAt w' ao es ∧
      e = .returned (.tuple #[.agg #[.int .i64 k, .int .i64 b, .slice ao es.length c, .string el], .bool true]))
theorem read_no {s : ByteArray} {w w' : World} {T : Int} (h : readR s.data.toList = none) (hb : Below w.heap.size w w') : ReadRPost s w (.returned (.tuple #[.agg #[.int .i64 T, .int .i64 0, .slice none 0 0, .string ⟨#[]⟩], .bool false])) w' := ⟨hb, .inl ⟨h, T, rfl⟩⟩
theorem read_flat {s : ByteArray} {k b : Int} {w w' : World} (h : readR s.data.toList = some (k, b, [], [])) (hb : Below w.heap.size w w') :
    ReadRPost s w (.returned (.tuple #[.agg #[.int .i64 k, .int .i64 b, .slice none 0 0, .string ⟨#[]⟩], .bool true])) w' := ⟨hb, .inr ⟨k, b, [], ⟨#[]⟩, none, 0, h, .inl rfl, rfl⟩⟩
theorem byte_beq {c x : UInt8} {y : Int} (hx : (x.toNat : Int) = y) (h : ((c.toNat : Int) == y) = true) : c = x := by
  rw [beq_iff_eq, ← hx] at h
  exact UInt8.toNat_inj.1 (by omega)
theorem head_beq {s : ByteArray} (h0 : 0 < s.size) {x : UInt8} {y : Int} (hx : (x.toNat : Int) = y) (h : s.data.toList.head? = some x) : (((s[0]'h0).toNat : Int) == y) = true := by
  rw [head_at s h0] at h
  rw [Option.some.inj h, beq_iff_eq, hx]
theorem number_index {l : List UInt8} {n : Nat} (h : numberR l = (n, true, true)) : n = 64 := by
  unfold numberR at h
  split at h
  · injection h with h _
    exact h.symm
  · split at h
    · injection h with _ h
      injection h with h _
      cases h
    · injection h with _ h
      injection h with h _
      cases h
theorem IsPair_some (s : ByteArray) (w : World) : Calls Tryz.prog 41 #[.string s, .int .i64 59] w fun e w' => ∃ b, e = .returned (.bool b) ∧ isPairR s.data.toList 59 = b ∧ w = w' :=
  (IsPair_ref s 59 (by decide) w).mono fun _ _ ⟨he, hw⟩ => ⟨_, he, rfl, hw⟩
theorem last_beq {s : ByteArray} (h : s.size - 1 < s.size) : ((((s[s.size - 1]'h).toNat : Int) != 62) = false ↔ s.data.toList.getLast? = some 62) := by
  have hl : s.data.toList.length - 1 < s.data.toList.length := by simpa using h
  have e : s.data.toList.getLast? = some (s[s.size - 1]'h) := by
    rw [List.getLast?_eq_getElem?, List.getElem?_eq_getElem hl]
    have : s.data.toList.length - 1 = s.size - 1 := by simp
    congr 1
  rw [e, Option.some.injEq, bne_eq_false_iff_eq]
  constructor
  · intro h
    exact UInt8.toNat_inj.1 (by simpa using (by omega : (s[s.size - 1]'_).toNat = 62))
  · intro h
    rw [h]; rfl
theorem headDigit_at {s : ByteArray} (h : 0 < s.size) : headDigit s.data.toList = bDigit (s[0]'h) := by
  have := head_at s h
  cases hl : s.data.toList with
  | nil => rw [hl] at this; cases this
  | cons c l =>
    rw [hl] at this
    have e : c = s[0]'h := Option.some.inj this
    rw [← e]; rfl
def strLen : Value → Nat
  | .string s => s.size
  | _ => 0
/-- What 'Read' holds between two rounds over the extents. -/
structure RSt (w : World) (k : Int) (l0 : List UInt8) (es : List Int) (q : ByteArray) (ao : Option Addr) (c : Nat) (wr : World) : Prop where
  n3 : es.length ≤ 3
  ran : ∀ x ∈ es, 0 ≤ x ∧ x ≤ 1000
  res : wr.heap[w.heap.size]? = some (.cells #[.int .i64 0, .int .i64 0, .slice none 0 0, .string ⟨#[]⟩] 24 (0, 0))
  t : wr.heap[w.heap.size + 1]? = some (.cells #[.int .i64 k, .int .i64 0, .slice ao es.length c, .string ⟨#[]⟩] 24 (0, 0))
  own : wr.ownsRow (w.heap.size + 2) 3 1 (.slice ao es.length c) es.length (es.map (.int .i64))
  bel : Below w.heap.size w wr
  size : w.heap.size + 2 ≤ wr.heap.size
  eq : extsR (3 - es.length) q.data.toList es = extsR 3 l0 []
  short : q.size ≤ 9223372036854775807
theorem RSt.start {w : World} {k : Int} {q : ByteArray} (hq : q.size ≤ 9223372036854775807) : RSt w k q.data.toList [] q none 0 ((w.alloc (.cells #[.int .i64 0, .int .i64 0, .slice none 0 0, .string ⟨#[]⟩] 24)).alloc (.cells #[.int .i64 k, .int .i64 0, .slice none 0 0, .string ⟨#[]⟩] 24)) := by
  refine ⟨by decide, (fun x hx => by cases hx), ?_, ?_, ⟨rfl, .inl ⟨rfl, rfl⟩⟩, ?_, ?_, rfl, hq⟩
  · exact (Below.heap_alloc _ _ _ (by simp)).trans (heap_alloc_new _ _)
  · have := heap_alloc_new (w.alloc (.cells #[.int .i64 0, .int .i64 0, .slice none 0 0, .string ⟨#[]⟩] 24)) (.cells #[.int .i64 k, .int .i64 0, .slice none 0 0, .string ⟨#[]⟩] 24)
    simpa using this
  · exact ((Below.refl w.heap.size w).alloc (Nat.le_refl _) _).alloc (by simp) _
  · simp
theorem RSt.stop {w : World} {k : Int} {l0 : List UInt8} {es : List Int} {q : ByteArray} {ao : Option Addr} {c : Nat} {wr : World} (h : RSt w k l0 es q ao c wr) (hd : headDigit q.data.toList = false) : extsR 3 l0 [] = some (es, q.data.toList) := by
  rw [← h.eq, extsR_eq, if_pos hd]
theorem mid_extract (s : ByteArray) (h : 5 ≤ s.size) : (s.extract 4 (s.size - 1)).data.toList = (s.data.toList.drop 4).dropLast := by
  have hl : s.data.toList.length = s.size := by simp
  rw [extract_toList, List.dropLast_eq_take, List.length_drop, List.drop_take, hl, show s.size - 1 - 4 = s.size - 4 - 1 by omega]

theorem x_step {s : ByteArray} {m : Nat} (h : (s.data.toList.take m).all notX = true) (hm : m < s.size) (hp : notX (s[m]'hm) = true) : (s.data.toList.take (m + 1)).all notX = true := by
  have hl : m < s.data.toList.length := by simpa using hm
  rw [take_snoc hl, all_snoc, h, Bool.true_and]
  exact hp
theorem own_slice {w : World} {B n : Nat} {e : TypeId} {v : Value} {xs : List Value} (h : w.ownsRow B e 1 v n xs) : ∃ ao c, v = .slice ao n c := by
  rcases h.2 with ⟨rfl, rfl⟩ | ⟨g, c, _, rfl, _⟩
  · exact ⟨none, 0, rfl⟩
  · exact ⟨_, c, rfl⟩
theorem own_below {w : World} {B n : Nat} {e : TypeId} {v : Value} {xs : List Value} (h : w.ownsRow B e 1 v n xs) {b : Nat} (hb : v.ownBlock = some b) : B ≤ b := by
  rcases h.2 with ⟨rfl, _⟩ | ⟨g, c, _, rfl, hg, _⟩
  · cases hb
  · cases hb
    exact hg
theorem own_ints {w : World} {B n : Nat} {ao : Option Addr} {c : Nat} {es : List Int} (h : w.ownsRow B 3 1 (.slice ao n c) n (es.map (.int .i64))) (hn : n = es.length) : IntsAt w ao es := by
  rcases h.2 with ⟨_, h0⟩ | ⟨g, c', cur, hv, _, hg, _, _, _, hcur⟩
  · rw [h0] at hn
    exact .inl (List.eq_nil_of_length_eq_zero hn.symm)
  · cases hv
    refine .inr ⟨_, rfl, fun j hj => ?_⟩
    have h1 : (cur.toList.take (n * 1))[j]? = some (.int .i64 (es[j]?.getD 0)) := by
      rw [hcur, List.getElem?_map, List.getElem?_eq_getElem hj]; rfl
    rw [List.getElem?_take_of_lt (by omega)] at h1
    rw [Addr.add_lit, cell_of_row _ _ _ _ _ _ hg]
    simpa using h1
theorem info_int : ∃ i, Tryz.prog.info? 3 = some i ∧ i.zero = some (.int .i64 0) ∧ i.size = 1 ∧ i.bytes = 8 := by
  have h1 : (Tryz.prog.info? 3).map (·.zero) = some (some (.int .i64 0)) := by kernel_rfl
  have h2 : (Tryz.prog.info? 3).map (·.size) = some 1 := by kernel_rfl
  have h3 : (Tryz.prog.info? 3).map (·.bytes) = some 8 := by kernel_rfl
  cases hi : Tryz.prog.info? 3 with
  | none => rw [hi] at h1; cases h1
  | some i =>
    rw [hi] at h1 h2 h3
    exact ⟨i, rfl, Option.some.inj h1, Option.some.inj h2, Option.some.inj h3⟩
/-- One number is appended to a slice of the call's own. -/
theorem append_run {w : World} {B : Nat} {ao : Option Addr} {c : Nat} {es : List Int} (h : w.ownsRow B 3 1 (.slice ao es.length c) es.length (es.map (.int .i64))) (hB : B ≤ w.heap.size) (h3 : es.length ≤ 3) (x : Int) (T : TypeId) {ty : TypeId} :
    ∃ ao' c' w', (Builtin.append_ #[22, 22] ty #[.slice ao es.length c, .slice (some ⟨w.heap.size, 0, none⟩) 1 1]).run Tryz.prog (w.alloc (.cells #[.int .i64 x] T)) = .ok (.slice ao' (es.length + 1) c') w' ∧
      w'.ownsRow B 3 1 (.slice ao' (es ++ [x]).length c') (es ++ [x]).length ((es ++ [x]).map (.int .i64)) ∧ Below B w w' ∧ w.heap.size ≤ w'.heap.size := by
  obtain ⟨i, hi, hz, hsz, hby⟩ := info_int
  have hown : (w.alloc (.cells #[.int .i64 x] T)).ownsRow B 3 1 (.slice ao es.length c) es.length (es.map (.int .i64)) := by
    refine ⟨h.1, ?_⟩
    rcases h.2 with h | ⟨g, c', cur, hv, hb, hg, hr⟩
    · exact .inl h
    · exact .inr ⟨g, c', cur, hv, hb, (Below.heap_alloc _ _ _ (lt_of_block hg)).trans hg, hr⟩
  have hcell : ∀ j u, [Value.int .i64 x][j]? = some u → (w.alloc (.cells #[.int .i64 x] T)).cell? ((⟨w.heap.size, 0, none⟩ : Addr).add j) = some u := by
    intro j u hj
    cases j with
    | zero =>
      simp only [List.getElem?_cons_zero, Option.some.injEq] at hj
      subst hj
      rw [Addr.add_lit, cell_of_row _ _ _ _ _ _ (heap_alloc_new _ _)]
      rfl
    | succ j => simp at hj
  obtain ⟨v', w', hr, h1, h2, _, h4⟩ := run_append_own_at (P := Tryz.prog) (w.alloc (.cells #[.int .i64 x] T)) B 22 ty 3 i (.int .i64 0) 1 8 Tryz.underlying22 hi hz hsz hby rfl (by decide)
    (.slice ao es.length c) es.length (es.map (.int .i64)) hown ⟨w.heap.size, 0, none⟩ 1 1 [.int .i64 x] rfl hcell (fun u hu => by simp only [List.mem_singleton] at hu; subst hu; rfl) (by simp only [maxLen]; omega) (by omega) (by simp; omega)
  obtain ⟨ao', c', rfl⟩ := own_slice h1
  refine ⟨ao', c', w', hr, ?_, ?_, ?_⟩
  · rw [List.length_append, List.map_append]
    exact h1
  · refine ⟨h2.os.trans rfl, h2.tape.trans rfl, h2.output.trans rfl, ?_, fun k hk => ?_⟩
    · have := h2.size; simp at this; omega
    · rw [h2.block k (by simp; omega) (fun e => by
        have := own_below hown e.symm
        omega)]
      exact Below.heap_alloc _ _ _ (by omega)
  · have := h2.size; simp at this; omega

theorem wp_append_int {ops : Array Oper} {rest : List Oper} {o : Oper} {a : Act} {Q : Exit → Act → World → Prop} {w : World} (hgd : o.guard = none) (s x : Operand)
    (ho : o.op = .call { callee := .builtin .append, args := #[s, x], argTypes := #[22, 22] }) {B : Nat} {ao : Option Addr} {c : Nat} {es : List Int} {n : Int}
    (h : w.ownsRow B 3 1 (.slice ao es.length c) es.length (es.map (.int .i64))) (hB : B ≤ w.heap.size) (h3 : es.length ≤ 3) (hs : a.eval s = .slice ao es.length c) (hx : a.eval x = .slice (some ⟨w.heap.size, 0, none⟩) 1 1)
    (hk : ∀ ao' c' w', w'.ownsRow B 3 1 (.slice ao' (es ++ [n]).length c') (es ++ [n]).length ((es ++ [n]).map (.int .i64)) → Below B w w' → wpList Tryz.prog ops Q rest (a.put o.dst (.slice ao' (es.length + 1) c')) w') :
    wpList Tryz.prog ops Q (o :: rest) a (w.alloc (.cells #[.int .i64 n] 3)) := by
  obtain ⟨ao', c', w', hr, h1, h2, _⟩ := append_run (ty := o.type) h hB h3 n 3
  refine wpList_plain hgd fun K hK => ?_
  unfold Oper.wp execOp
  simp only [ho, resolve, invoke, builtin, Sem.run_bind, Sem.run_pure, Result.andThen_ok, List.map_toArray, List.map_cons, List.map_nil, hs, hx, hr]
  exact hK _ _ (hk ao' c' w' h1 h2)

theorem ran_prod {es : List Int} (h3 : es.length ≤ 2) (hr : ∀ x ∈ es, 0 ≤ x ∧ x ≤ 1000) : 0 ≤ prodL es ∧ prodL es ≤ 1000000 := by
  match es, h3 with
  | [], _ => decide
  | [a], _ =>
    have h1 := hr a (by simp)
    simp only [prodL, List.foldl_cons, List.foldl_nil, Int.one_mul]
    omega
  | [a, b], _ =>
    have h1 := hr a (by simp)
    have h2 := hr b (by simp)
    simp only [prodL, List.foldl_cons, List.foldl_nil, Int.one_mul]
    have := Int.mul_le_mul h1.2 h2.2 h2.1 (by omega)
    exact ⟨Int.mul_nonneg h1.1 h2.1, by omega⟩
theorem prodL_snoc (es : List Int) (x : Int) : prodL (es ++ [x]) = prodL es * x := by
  unfold prodL
  rw [List.foldl_append]
  rfl

theorem own_kept {w w' : World} {B n : Nat} {e : TypeId} {v : Value} {xs : List Value} (h : w.ownsRow B e 1 v n xs) (hk : ∀ k, B ≤ k → w'.heap[k]? = w.heap[k]?) : w'.ownsRow B e 1 v n xs := by
  refine ⟨h.1, ?_⟩
  rcases h.2 with h | ⟨g, c, cur, hv, hb, hg, hr⟩
  · exact .inl h
  · exact .inr ⟨g, c, cur, hv, hb, (hk g hb).trans hg, hr⟩
theorem mul_ok {w : World} {k : Int} {l0 : List UInt8} {es : List Int} {q : ByteArray} {ao : Option Addr} {c : Nat} {wr : World} (h : RSt w k l0 es q ao c wr) (h3 : ¬ es.length = 3) {l : List UInt8} {n : Nat} (hn : numR l 1000 = (n, true)) : wrap64 (prodL es * n) = prodL es * n := by
  have hb := ran_prod (es := es) (by have := h.n3; omega) h.ran
  have h1000 : n ≤ 1000 := by
    have := numR_yes (l := l) (m := 1000) (by rw [hn])
    rw [hn] at this
    have h1 := this.2.2.2.1
    have h2 := this.2.2.2.2.1
    simp only at h1
    omega
  have h1 : prodL es * n ≤ 1000000 * 1000 := Int.mul_le_mul hb.2 (by omega) (by omega) (by omega)
  have h2 : 0 ≤ prodL es * n := Int.mul_nonneg hb.1 (by omega)
  unfold wrap64
  omega
/-- The end of 'Read' with a refusal, or with what was read. -/
theorem RSt.fail {s : ByteArray} {w : World} {k : Int} {l0 : List UInt8} {es : List Int} {q : ByteArray} {ao : Option Addr} {c : Nat} {wr : World} (h : RSt w k l0 es q ao c wr) (hr : readR s.data.toList = none) :
    (loadVar 24 ⟨w.heap.size, 0, none⟩).run Tryz.prog ((((wr.setCell ⟨w.heap.size, 0, none⟩ (.int .i64 0)).setCell ⟨w.heap.size, 1, none⟩ (.int .i64 0)).setCell ⟨w.heap.size, 2, none⟩ (.slice none 0 0)).setCell ⟨w.heap.size, 3, none⟩ (.string ⟨#[]⟩)) =
      .ok (.agg #[.int .i64 0, .int .i64 0, .slice none 0 0, .string ⟨#[]⟩]) ((((wr.setCell ⟨w.heap.size, 0, none⟩ (.int .i64 0)).setCell ⟨w.heap.size, 1, none⟩ (.int .i64 0)).setCell ⟨w.heap.size, 2, none⟩ (.slice none 0 0)).setCell ⟨w.heap.size, 3, none⟩ (.string ⟨#[]⟩)) ∧
    ReadRPost s w (.returned (.tuple #[.agg #[.int .i64 0, .int .i64 0, .slice none 0 0, .string ⟨#[]⟩], .bool false])) ((((wr.setCell ⟨w.heap.size, 0, none⟩ (.int .i64 0)).setCell ⟨w.heap.size, 1, none⟩ (.int .i64 0)).setCell ⟨w.heap.size, 2, none⟩ (.slice none 0 0)).setCell ⟨w.heap.size, 3, none⟩ (.string ⟨#[]⟩)) :=
  ⟨tVar (set4_block h.res), read_no hr (set4_below h.bel (Nat.le_refl _))⟩
theorem RSt.el {w : World} {k : Int} {l0 : List UInt8} {es : List Int} {q : ByteArray} {ao : Option Addr} {c : Nat} {wr : World} (h : RSt w k l0 es q ao c wr) (v : Value) :
    (wr.setCell ⟨w.heap.size + 1, 3, none⟩ v).heap[w.heap.size]? = some (.cells #[.int .i64 0, .int .i64 0, .slice none 0 0, .string ⟨#[]⟩] 24 (0, 0)) ∧ Below w.heap.size w (wr.setCell ⟨w.heap.size + 1, 3, none⟩ v) :=
  ⟨by rw [heap_setCell_other _ _ _ _ (by dsimp only; omega)]; exact h.res, h.bel.setCell (by dsimp only; omega) _⟩
theorem RSt.yes {s : ByteArray} {w : World} {k : Int} {l0 : List UInt8} {es : List Int} {q : ByteArray} {ao : Option Addr} {c : Nat} {wr : World} (h : RSt w k l0 es q ao c wr) (hr : readR s.data.toList = some (k, 0, es, q.data.toList)) :
    ReadRPost s w (.returned (.tuple #[.agg #[.int .i64 k, .int .i64 0, .slice ao es.length c, .string q], .bool true]))
      (((((wr.setCell ⟨w.heap.size + 1, 3, none⟩ (.string q)).setCell ⟨w.heap.size, 0, none⟩ (.int .i64 k)).setCell ⟨w.heap.size, 1, none⟩ (.int .i64 0)).setCell ⟨w.heap.size, 2, none⟩ (.slice ao es.length c)).setCell ⟨w.heap.size, 3, none⟩ (.string q)) := by
  refine ⟨set4_below (h.el _).2 (Nat.le_refl _), .inr ⟨k, 0, es, q, ao, c, hr, ?_, rfl⟩⟩
  refine own_ints (B := w.heap.size + 2) (c := c) (own_kept h.own fun j hj => ?_) rfl
  rw [heap_setCell_other _ _ _ _ (by dsimp only; omega), heap_setCell_other _ _ _ _ (by dsimp only; omega), heap_setCell_other _ _ _ _ (by dsimp only; omega), heap_setCell_other _ _ _ _ (by dsimp only; omega), heap_setCell_other _ _ _ _ (by dsimp only; omega)]
theorem x_stop {q : ByteArray} {m : Nat} (h : (q.data.toList.take m).all notX = true) (hm : m < q.size) (hx : notX (q[m]'hm) = false) :
    q.data.toList.takeWhile notX = q.data.toList.take m ∧ q.data.toList.dropWhile notX = q[m]'hm :: q.data.toList.drop (m + 1) := by
  have hl : m < q.data.toList.length := by simpa using hm
  have hcat : q.data.toList = q.data.toList.take m ++ q[m]'hm :: q.data.toList.drop (m + 1) := by
    conv => lhs; rw [← List.take_append_drop m q.data.toList, List.drop_eq_getElem_cons hl]
    rfl
  obtain ⟨h1, h2⟩ := tw_append (p := notX) (m := q[m]'hm :: q.data.toList.drop (m + 1)) h
  rw [← hcat] at h1 h2
  simp only [List.takeWhile_cons, hx, List.dropWhile_cons, List.append_nil, Bool.false_eq_true, if_false] at h1 h2
  exact ⟨h1, h2⟩
theorem Num_1000 (s : ByteArray) (w : World) : Calls Tryz.prog 42 #[.string s, .int .i64 1000] w fun e w' => ∃ (n : Nat) (ok : Bool), e = .returned (.tuple #[.int .i64 n, .bool ok]) ∧ numR s.data.toList 1000 = (n, ok) ∧ w = w' :=
  (Num_any s 1000 w).mono fun _ _ ⟨he, hw⟩ => ⟨_, _, he, rfl, hw⟩

/-- The three ways in which an extent is no right one, and the one in which it is. -/
theorem RSt.bad {w : World} {k : Int} {l0 : List UInt8} {es : List Int} {q : ByteArray} {ao : Option Addr} {c : Nat} {wr : World} (h : RSt w k l0 es q ao c wr) (hd : headDigit q.data.toList = true)
    (hb : (numR (q.data.toList.takeWhile notX) 1000).2 = false ∨ q.data.toList.dropWhile notX = [] ∨ es.length = 3) : extsR 3 l0 [] = none := by
  rw [← h.eq, extsR_eq, if_neg (by rw [hd]; decide)]
  rcases hb with hb | hb | hb
  · rw [if_pos (.inl hb)]
  · rw [if_pos (.inr hb)]
  · rw [hb]
    simp
theorem RSt.next {w : World} {k : Int} {l0 : List UInt8} {es : List Int} {q q' : ByteArray} {ao ao' : Option Addr} {c c' : Nat} {wr w2 : World} (h : RSt w k l0 es q ao c wr) (hd : headDigit q.data.toList = true) {n : Nat}
    (hn : numR (q.data.toList.takeWhile notX) 1000 = (n, true)) {x : UInt8} {r : List UInt8} (hx : q.data.toList.dropWhile notX = x :: r) (hq : q'.data.toList = r) (h3 : ¬ es.length = 3)
    (hown : w2.ownsRow (w.heap.size + 2) 3 1 (.slice ao' (es ++ [(n : Int)]).length c') (es ++ [(n : Int)]).length ((es ++ [(n : Int)]).map (.int .i64))) (hb : Below (w.heap.size + 2) wr w2) :
    RSt w k l0 (es ++ [(n : Int)]) q' ao' c' (w2.setCell ⟨w.heap.size + 1, 2, none⟩ (.slice ao' (es.length + 1) c')) := by
  have hl3 := h.n3
  have hle : (es ++ [(n : Int)]).length = es.length + 1 := by simp
  have h1000 : n ≤ 1000 := by
    have := numR_yes (l := q.data.toList.takeWhile notX) (m := 1000) (by rw [hn])
    rw [hn] at this
    have h1 := this.2.2.2.1
    have h2 := this.2.2.2.2.1
    simp only at h1
    omega
  have ht := (hb.block (w.heap.size + 1) (by omega)).trans h.t
  refine ⟨by omega, ?_, ?_, ?_, ?_, ?_, ?_, ?_, ?_⟩
  · intro y hy
    rcases List.mem_append.1 hy with hy | hy
    · exact h.ran y hy
    · simp only [List.mem_singleton] at hy
      subst hy
      omega
  · rw [heap_setCell_other _ _ _ _ (by dsimp only; omega)]
    exact (hb.block _ (by omega)).trans h.res
  · rw [heap_setCell_same _ _ 2 _ _ _ ht, hle]
    rfl
  · refine ⟨hown.1, ?_⟩
    rcases hown.2 with h' | ⟨g, c2, cur, hv, hg, hgb, hr⟩
    · exact .inl h'
    · exact .inr ⟨g, c2, cur, hv, hg, by rw [heap_setCell_other _ _ _ _ (by dsimp only; omega)]; exact hgb, hr⟩
  · exact (h.bel.trans (hb.mono (by omega))).setCell (by dsimp only; omega) _
  · rw [setCell_size]
    have := hb.size
    have := h.size
    omega
  · rw [← h.eq, extsR_eq (3 - es.length), if_neg (by rw [hd]; decide), if_neg, hle, hq]
    · obtain ⟨m, hm⟩ : ∃ m, 3 - es.length = m + 1 := ⟨2 - es.length, by omega⟩
      rw [hm, show 3 - (es.length + 1) = m by omega, hx, List.tail_cons, hn]
    · rw [hn, hx]
      simp
  · have h1 := congrArg List.length (tw_dw (p := notX) q.data.toList)
    rw [List.length_append, hx, ← hq] at h1
    have := h.short
    simp at h1
    omega

set_option maxHeartbeats 16000000 in
set_option maxRecDepth 100000 in
theorem Read_ref (s : ByteArray) (hs : s.size ≤ 9223372036854775807) (w : World) : Calls Tryz.prog 10 #[.string s] w (ReadRPost s w) := by
  have HZ := Lib.hid (heap_alloc_new w (.cells #[.int .i64 0, .int .i64 0, .slice none 0 0, .string ⟨#[]⟩] 24))
  have HB := Lib.hid ((Below.refl w.heap.size w).alloc (Nat.le_refl _) (.cells #[.int .i64 0, .int .i64 0, .slice none 0 0, .string ⟨#[]⟩] 24))
  go_enter Tryz.func10, Tryz.ntmps10
  go_wp2_with fail
  refine (number_some_ref s _).mono ?_
  rintro e w1 ⟨n, ix, ok, rfl, hn, rfl⟩
  have HN := Lib.hid hn
  clear hn
  cases ok
  · by_cases h33 : 1 < s.size ∧ ∃ h : 0 < s.size, (((s[0]'h).toNat : Int) == 33) = true
    · obtain ⟨h1, h0, h33⟩ := h33
      have hp : ∀ b, isPairR s.data.toList.tail 59 = b → readR s.data.toList = if b = true then some (4, 0, [], []) else none := by
        intro b hb
        unfold readR
        rw [HN.out, if_neg Bool.false_ne_true, if_pos ⟨by simpa using h1, by rw [head_at s h0]; exact congrArg some (byte_beq (x := 33) (by decide) h33)⟩, hb]
      have HP := Lib.hid hp
      clear hp
      go_wp2_with fail
      refine (IsPair_some _ _).mono ?_
      rintro e w1 ⟨b, rfl, hb, hw⟩
      rw [tail_extract] at hb
      subst hw
      have hr := Lib.hid (HP.out b hb)
      clear hb
      cases b
      · go_wp2_with fail
        refine bodyPost_ret (v := .tuple #[.agg #[.int .i64 4, .int .i64 0, .slice none 0 0, .string ⟨#[]⟩], .bool false]) (results_cell_tmp Tryz.results10 rfl rfl (tVar (heap_alloc_new w _))) rfl ?_
        exact read_no hr.out ((Below.refl w.heap.size w).alloc (Nat.le_refl _) _)
      · go_wp2_with fail
        refine bodyPost_ret (v := .tuple #[.agg #[.int .i64 4, .int .i64 0, .slice none 0 0, .string ⟨#[]⟩], .bool true]) (results_cell_tmp Tryz.results10 rfl rfl (tVar (heap_alloc_new w _))) rfl ?_
        exact read_flat hr.out ((Below.refl w.heap.size w).alloc (Nat.le_refl _) _)
    · by_cases h5 : s.size < 5
      · have hr : Hid (readR s.data.toList = none) := Lib.hid <| by
          unfold readR
          rw [HN.out, if_neg Bool.false_ne_true, if_neg, if_pos (.inl (by simpa using h5))]
          rintro ⟨h1, h2⟩
          have h0 : 0 < s.size := by have : 1 < s.size := by simpa using h1
                                     omega
          exact h33 ⟨by simpa using h1, h0, head_beq h0 (x := 33) (by decide) h2⟩
        by_cases h1 : 1 < s.size
        · have h0 : 0 < s.size := by omega
          have h33' : (((s[0]'h0).toNat : Int) == 33) = false := by
            cases hz : (((s[0]'h0).toNat : Int) == 33)
            · rfl
            · exact absurd ⟨h1, h0, hz⟩ h33
          clear h33
          go_wp2_with fail
          refine bodyPost_ret (v := .tuple #[.agg #[.int .i64 0, .int .i64 0, .slice none 0 0, .string ⟨#[]⟩], .bool false]) (results_cell_tmp Tryz.results10 rfl rfl (tVar HZ.out)) rfl ?_
          exact read_no hr.out HB.out
        · clear h33
          go_wp2_with fail
          refine bodyPost_ret (v := .tuple #[.agg #[.int .i64 0, .int .i64 0, .slice none 0 0, .string ⟨#[]⟩], .bool false]) (results_cell_tmp Tryz.results10 rfl rfl (tVar HZ.out)) rfl ?_
          exact read_no hr.out HB.out
      · have h1 : 1 < s.size := by omega
        have h0 : 0 < s.size := by omega
        have h33' : (((s[0]'h0).toNat : Int) == 33) = false := by
          cases hz : (((s[0]'h0).toNat : Int) == 33)
          · rfl
          · exact absurd ⟨h1, h0, hz⟩ h33
        have h5i : 5 ≤ (s.size : Int) := by omega
        have hlast : s.size - 1 < s.size := by omega
        have hR : readR s.data.toList = (if (s.data.toList.take 4 ≠ memW ∧ s.data.toList.take 4 ≠ arrW) ∨ s.data.toList.getLast? ≠ some 62 then none
            else match extsR 3 ((s.data.toList.drop 4).dropLast) [] with
              | none => none
              | some (es, l2) => if (numberR l2).2.2 = true ∧ prodL es ≤ 4096 then some (if s.data.toList.take 4 = arrW then 3 else 2, 0, es, l2) else none : Option (Int × Int × List Int × List UInt8)) := by
          unfold readR
          rw [HN.out, if_neg Bool.false_ne_true, if_neg]
          · have h5' : ¬ s.data.toList.length < 5 := by simpa using h5
            simp only [h5', false_or]
            rfl
          · rintro ⟨_, h2⟩
            rw [head_beq h0 (x := 33) (by decide) h2] at h33'
            cases h33'
        have HR := Lib.hid hR
        clear hR h33
        have h5d : decide ((s.size : Int) < 5) = false := decide_eq_false (by omega)
        have hg62 := last_beq hlast
        have hbad : (((s[s.size - 1]'hlast).toNat : Int) != 62) = true → readR s.data.toList = none := fun h => by
          rw [HR.out, if_pos (.inr fun e => by rw [hg62.2 e] at h; cases h)]
        have HBAD := Lib.hid hbad
        have HG := Lib.hid hg62
        clear hbad hg62
        cases hm : ((s.extract 0 4).toList == [109, 101, 109, 60])
        · cases ha : ((s.extract 0 4).toList == [97, 114, 114, 60])
          · have hr := Lib.hid (HR.out.trans (if_pos (.inl ⟨by rw [← front_extract]; exact ne_of_beq_toList hm, by rw [← front_extract]; exact ne_of_beq_toList ha⟩)))
            go_wp2_with fail
            refine bodyPost_ret (v := .tuple #[.agg #[.int .i64 0, .int .i64 0, .slice none 0 0, .string ⟨#[]⟩], .bool false]) (results_cell_tmp Tryz.results10 rfl rfl (tVar HZ.out)) rfl ?_
            exact read_no hr.out HB.out
          · cases hg : (((s[s.size - 1]'hlast).toNat : Int) != 62)
            · have hkk : (if s.data.toList.take 4 = arrW then (3 : Int) else 2) = 3 := by rw [← front_extract, eq_of_beq_toList ha]; rfl
              have hrd : ∀ z, extsR 3 (s.extract 4 (s.size - 1)).data.toList [] = z → readR s.data.toList = match z with
                  | none => none
                  | some (es, l2) => if (numberR l2).2.2 = true ∧ prodL es ≤ 4096 then some (3, 0, es, l2) else none := by
                intro z hz
                rw [HR.out, if_neg, ← mid_extract s (by omega), hz, hkk]
                rintro (⟨h1, h2⟩ | h)
                · exact h2 (by rw [← front_extract]; exact eq_of_beq_toList ha)
                · exact h (HG.out.1 hg)
              have HRD := Lib.hid hrd
              have hq63 : (s.extract 4 (s.size - 1)).size ≤ 9223372036854775807 := by rw [ByteArray.size_extract]; omega
              have hst : Hid (RSt w 3 (s.extract 4 (s.size - 1)).data.toList [] (s.extract 4 (s.size - 1)) none 0 _) := RSt.start hq63
              obtain ⟨l0, hl0⟩ : ∃ l0, l0 = (s.extract 4 (s.size - 1)).data.toList := ⟨_, rfl⟩
              rw [← hl0] at hst HRD
              clear hl0 hrd hkk
              go_wp2_with fail
              go_loopw [8, 9] (fun q c wr => ∃ (q' : ByteArray) (es : List Int) (ao : Option Addr) (cp : Nat), q = .string q' ∧ c = .int .i64 (prodL es) ∧ Hid (RSt w 3 l0 es q' ao cp wr)) (fun q _ _ => strLen q)
              case atStart => exact ⟨_, [], none, 0, rfl, rfl, hst⟩
              case round =>
                clear hst
                obtain ⟨q, es, ao, cp, rfl, rfl, HS⟩ := hrel
                have out : headDigit q.data.toList = false → Hid (extsR 3 l0 [] = some (es, q.data.toList)) := fun h => Lib.hid (HS.out.stop h)
                have hqs := HS.out.short
                cases hqe : q.toList.isEmpty
                · have hq0 : 0 < q.size := by rw [size_eq]; exact List.length_pos_iff.2 (nonempty_of hqe)
                  have hqb := (q[0]'hq0).toNat_lt
                  have hhd := headDigit_at hq0
                  by_cases hlo : 48 ≤ (q[0]'hq0).toNat
                  · by_cases hhi : (q[0]'hq0).toNat ≤ 57
                    · have hdig : Hid (headDigit q.data.toList = true) := Lib.hid (hhd.trans ((digit_iff _).2 ⟨hlo, hhi⟩))
                      clear out hhd
                      go_wp2_with fail
                      go_loopw [10] (fun i w2 => ∃ m : Nat, m ≤ q.size ∧ i = .int .i64 m ∧ Hid ((q.data.toList.take m).all notX = true) ∧ w2 = wr) (fun i _ => q.size - (intOf i).toNat)
                      case atStart => exact ⟨0, Nat.zero_le _, rfl, rfl, rfl⟩
                      case round =>
                        obtain ⟨m, hms, rfl, hall, rfl⟩ := hrel
                        by_cases hlt : m < q.size
                        · have hbm := (q[m]'hlt).toNat_lt
                          cases hx : (((q[m]'hlt).toNat : Int) != 120)
                          · have hst := Lib.hid (x_stop hall.out hlt (show notX (q[m]'hlt) = false by unfold notX bIs; simpa using hx))
                            go_wp2_with fail
                            refine (Num_1000 _ _).mono ?_
                            rintro e w2 ⟨n2, ok2, rfl, hn2, rfl⟩
                            rw [front_extract, ← hst.out.1] at hn2
                            have HN2 := Lib.hid hn2
                            clear hn2
                            obtain ⟨t0, t1, t2, t3, tf⟩ := cells4 HS.out.t
                            obtain ⟨r0, r1, r2, r3, rf⟩ := cells4 HS.out.res
                            have hmne : ((m : Int) == (q.size : Int)) = false := by rw [beq_eq_false_iff_ne]; omega
                            cases ok2
                            · have hy := Lib.hid (HRD.out _ (HS.out.bad hdig.out (.inl (by rw [HN2.out]))))
                              go_wp2_with fail
                              refine bodyPost_ret (v := .tuple #[.agg #[.int .i64 0, .int .i64 0, .slice none 0 0, .string ⟨#[]⟩], .bool false]) (results_cell_tmp Tryz.results10 rfl rfl (HS.out.fail hy.out).1) rfl ?_
                              exact (HS.out.fail hy.out).2
                            · cases h3 : ((es.length : Int) == 3)
                              · have h3n : ¬ es.length = 3 := by rw [beq_eq_false_iff_ne] at h3; omega
                                have hmul := mul_ok HS.out h3n HN2.out
                                go_wp2_with (at_builtin; refine wp_append_int rfl _ _ rfl HS.out.own HS.out.size HS.out.n3 rfl rfl ?_; intro ao' c' w3 hown hbel; have HOWN := Lib.hid hown; have HBEL := Lib.hid hbel; have ycells := cells4 ((hbel.block (w.heap.size + 1) (by omega)).trans HS.out.t); have y2 := ycells.2.2.1; have yf := ycells.2.2.2.2; clear hown hbel ycells)
                                go_roundw
                                case rel => exact ⟨_, es ++ [(n2 : Int)], ao', c', rfl, by rw [prodL_snoc, hmul], HS.out.next hdig.out HN2.out hst.out.2 (back_extract q (m + 1)) h3n HOWN.out HBEL.out⟩
                                case measure => simp only [strLen, ByteArray.size_extract]; omega
                              · have hy := Lib.hid (HRD.out _ (HS.out.bad hdig.out (.inr (.inr (by rw [beq_iff_eq] at h3; omega)))))
                                go_wp2_with fail
                                refine bodyPost_ret (v := .tuple #[.agg #[.int .i64 0, .int .i64 0, .slice none 0 0, .string ⟨#[]⟩], .bool false]) (results_cell_tmp Tryz.results10 rfl rfl (HS.out.fail hy.out).1) rfl ?_
                                exact (HS.out.fail hy.out).2
                          · have hnx := Lib.hid (show notX (q[m]'hlt) = true by unfold notX bIs; simpa using hx)
                            go_wp2_with fail
                            go_roundw
                            case rel => exact ⟨m + 1, by omega, by go_num, x_step hall.out hlt hnx.out, trivial⟩
                            case measure => simp [intOf]; omega
                        · obtain rfl : m = q.size := by omega
                          have hy := Lib.hid (HRD.out _ (HS.out.bad hdig.out (.inr (.inl (tw_all (by have := hall.out; rwa [List.take_of_length_le (by simp)] at this)).2))))
                          obtain ⟨t0, t1, t2, t3, tf⟩ := cells4 HS.out.t
                          obtain ⟨r0, r1, r2, r3, rf⟩ := cells4 HS.out.res
                          go_wp2_with fail
                          refine (Num_1000 _ _).mono ?_
                          rintro e w2 ⟨n2, ok2, rfl, hn2, rfl⟩
                          clear hn2
                          cases ok2
                          · go_wp2_with fail
                            refine bodyPost_ret (v := .tuple #[.agg #[.int .i64 0, .int .i64 0, .slice none 0 0, .string ⟨#[]⟩], .bool false]) (results_cell_tmp Tryz.results10 rfl rfl (HS.out.fail hy.out).1) rfl ?_
                            exact (HS.out.fail hy.out).2
                          · go_wp2_with fail
                            refine bodyPost_ret (v := .tuple #[.agg #[.int .i64 0, .int .i64 0, .slice none 0 0, .string ⟨#[]⟩], .bool false]) (results_cell_tmp Tryz.results10 rfl rfl (HS.out.fail hy.out).1) rfl ?_
                            exact (HS.out.fail hy.out).2
                    · have ho := out (by rw [hhd]; simp only [Bool.eq_false_iff]; exact fun h => hhi ((digit_iff _).1 h).2)
                      clear out hhd
                      go_wp2_with fail
                      refine (number_some_ref q _).mono ?_
                      rintro e w2 ⟨n2, ix2, ok2, rfl, hn2, rfl⟩
                      have HN2 := Lib.hid hn2
                      clear hn2
                      obtain ⟨t0, t1, t2, t3, tf⟩ := cells4 HS.out.t
                      obtain ⟨r0, r1, r2, r3, rf⟩ := cells4 HS.out.res
                      have hfin : readR s.data.toList = if (numberR q.data.toList).2.2 = true ∧ prodL es ≤ 4096 then some (3, 0, es, q.data.toList) else none := HRD.out _ ho.out
                      rw [HN2.out] at hfin
                      have HF := Lib.hid hfin
                      clear hfin
                      cases ok2
                      · go_wp2_with fail
                        refine bodyPost_ret (v := .tuple #[.agg #[.int .i64 0, .int .i64 0, .slice none 0 0, .string ⟨#[]⟩], .bool false]) (results_cell_tmp Tryz.results10 rfl rfl (tVar (set4_block (HS.out.el _).1))) rfl ?_
                        exact read_no (HF.out.trans (if_neg (fun h => Bool.false_ne_true h.1))) (set4_below (HS.out.el _).2 (Nat.le_refl _))
                      · by_cases hpr : prodL es ≤ 4096
                        · have hy := Lib.hid (HF.out.trans (if_pos ⟨rfl, hpr⟩))
                          go_wp2_with fail
                          refine bodyPost_ret (v := .tuple #[.agg #[.int .i64 3, .int .i64 0, .slice ao es.length cp, .string q], .bool true]) (results_cell_tmp Tryz.results10 rfl rfl (tVar (set4_block (HS.out.el _).1))) rfl ?_
                          exact HS.out.yes hy.out
                        · have hy := Lib.hid (HF.out.trans (if_neg (fun h => hpr h.2)))
                          go_wp2_with fail
                          refine bodyPost_ret (v := .tuple #[.agg #[.int .i64 0, .int .i64 0, .slice none 0 0, .string ⟨#[]⟩], .bool false]) (results_cell_tmp Tryz.results10 rfl rfl (tVar (set4_block (HS.out.el _).1))) rfl ?_
                          exact read_no hy.out (set4_below (HS.out.el _).2 (Nat.le_refl _))
                  · have ho := out (by rw [hhd]; simp only [Bool.eq_false_iff]; exact fun h => hlo ((digit_iff _).1 h).1)
                    clear out hhd
                    go_wp2_with fail
                    refine (number_some_ref q _).mono ?_
                    rintro e w2 ⟨n2, ix2, ok2, rfl, hn2, rfl⟩
                    have HN2 := Lib.hid hn2
                    clear hn2
                    obtain ⟨t0, t1, t2, t3, tf⟩ := cells4 HS.out.t
                    obtain ⟨r0, r1, r2, r3, rf⟩ := cells4 HS.out.res
                    have hfin : readR s.data.toList = if (numberR q.data.toList).2.2 = true ∧ prodL es ≤ 4096 then some (3, 0, es, q.data.toList) else none := HRD.out _ ho.out
                    rw [HN2.out] at hfin
                    have HF := Lib.hid hfin
                    clear hfin
                    cases ok2
                    · go_wp2_with fail
                      refine bodyPost_ret (v := .tuple #[.agg #[.int .i64 0, .int .i64 0, .slice none 0 0, .string ⟨#[]⟩], .bool false]) (results_cell_tmp Tryz.results10 rfl rfl (tVar (set4_block (HS.out.el _).1))) rfl ?_
                      exact read_no (HF.out.trans (if_neg (fun h => Bool.false_ne_true h.1))) (set4_below (HS.out.el _).2 (Nat.le_refl _))
                    · by_cases hpr : prodL es ≤ 4096
                      · have hy := Lib.hid (HF.out.trans (if_pos ⟨rfl, hpr⟩))
                        go_wp2_with fail
                        refine bodyPost_ret (v := .tuple #[.agg #[.int .i64 3, .int .i64 0, .slice ao es.length cp, .string q], .bool true]) (results_cell_tmp Tryz.results10 rfl rfl (tVar (set4_block (HS.out.el _).1))) rfl ?_
                        exact HS.out.yes hy.out
                      · have hy := Lib.hid (HF.out.trans (if_neg (fun h => hpr h.2)))
                        go_wp2_with fail
                        refine bodyPost_ret (v := .tuple #[.agg #[.int .i64 0, .int .i64 0, .slice none 0 0, .string ⟨#[]⟩], .bool false]) (results_cell_tmp Tryz.results10 rfl rfl (tVar (set4_block (HS.out.el _).1))) rfl ?_
                        exact read_no hy.out (set4_below (HS.out.el _).2 (Nat.le_refl _))
                · have ho := out (by rw [empty_of hqe]; rfl)
                  clear out
                  go_wp2_with fail
                  refine (number_some_ref q _).mono ?_
                  rintro e w2 ⟨n2, ix2, ok2, rfl, hn2, rfl⟩
                  have HN2 := Lib.hid hn2
                  clear hn2
                  obtain ⟨t0, t1, t2, t3, tf⟩ := cells4 HS.out.t
                  obtain ⟨r0, r1, r2, r3, rf⟩ := cells4 HS.out.res
                  have hfin : readR s.data.toList = if (numberR q.data.toList).2.2 = true ∧ prodL es ≤ 4096 then some (3, 0, es, q.data.toList) else none := HRD.out _ ho.out
                  rw [HN2.out] at hfin
                  have HF := Lib.hid hfin
                  clear hfin
                  cases ok2
                  · go_wp2_with fail
                    refine bodyPost_ret (v := .tuple #[.agg #[.int .i64 0, .int .i64 0, .slice none 0 0, .string ⟨#[]⟩], .bool false]) (results_cell_tmp Tryz.results10 rfl rfl (tVar (set4_block (HS.out.el _).1))) rfl ?_
                    exact read_no (HF.out.trans (if_neg (fun h => Bool.false_ne_true h.1))) (set4_below (HS.out.el _).2 (Nat.le_refl _))
                  · by_cases hpr : prodL es ≤ 4096
                    · have hy := Lib.hid (HF.out.trans (if_pos ⟨rfl, hpr⟩))
                      go_wp2_with fail
                      refine bodyPost_ret (v := .tuple #[.agg #[.int .i64 3, .int .i64 0, .slice ao es.length cp, .string q], .bool true]) (results_cell_tmp Tryz.results10 rfl rfl (tVar (set4_block (HS.out.el _).1))) rfl ?_
                      exact HS.out.yes hy.out
                    · have hy := Lib.hid (HF.out.trans (if_neg (fun h => hpr h.2)))
                      go_wp2_with fail
                      refine bodyPost_ret (v := .tuple #[.agg #[.int .i64 0, .int .i64 0, .slice none 0 0, .string ⟨#[]⟩], .bool false]) (results_cell_tmp Tryz.results10 rfl rfl (tVar (set4_block (HS.out.el _).1))) rfl ?_
                      exact read_no hy.out (set4_below (HS.out.el _).2 (Nat.le_refl _))
            · have hr := Lib.hid (HBAD.out hg)
              go_wp2_with fail
              refine bodyPost_ret (v := .tuple #[.agg #[.int .i64 0, .int .i64 0, .slice none 0 0, .string ⟨#[]⟩], .bool false]) (results_cell_tmp Tryz.results10 rfl rfl (tVar HZ.out)) rfl ?_
              exact read_no hr.out HB.out
        · have ha : ((s.extract 0 4).toList == [97, 114, 114, 60]) = false := by rw [beq_iff_eq] at hm; rw [hm]; rfl
          cases hg : (((s[s.size - 1]'hlast).toNat : Int) != 62)
          · have hkk : (if s.data.toList.take 4 = arrW then (3 : Int) else 2) = 2 := by rw [← front_extract, eq_of_beq_toList hm]; rfl
            have hrd : ∀ z, extsR 3 (s.extract 4 (s.size - 1)).data.toList [] = z → readR s.data.toList = match z with
                | none => none
                | some (es, l2) => if (numberR l2).2.2 = true ∧ prodL es ≤ 4096 then some (2, 0, es, l2) else none := by
              intro z hz
              rw [HR.out, if_neg, ← mid_extract s (by omega), hz, hkk]
              rintro (⟨h1, h2⟩ | h)
              · exact h1 (by rw [← front_extract]; exact eq_of_beq_toList hm)
              · exact h (HG.out.1 hg)
            have HRD := Lib.hid hrd
            have hq63 : (s.extract 4 (s.size - 1)).size ≤ 9223372036854775807 := by rw [ByteArray.size_extract]; omega
            have hst : Hid (RSt w 2 (s.extract 4 (s.size - 1)).data.toList [] (s.extract 4 (s.size - 1)) none 0 _) := RSt.start hq63
            obtain ⟨l0, hl0⟩ : ∃ l0, l0 = (s.extract 4 (s.size - 1)).data.toList := ⟨_, rfl⟩
            rw [← hl0] at hst HRD
            clear hl0 hrd hkk
            go_wp2_with fail
            go_loopw [8, 9] (fun q c wr => ∃ (q' : ByteArray) (es : List Int) (ao : Option Addr) (cp : Nat), q = .string q' ∧ c = .int .i64 (prodL es) ∧ Hid (RSt w 2 l0 es q' ao cp wr)) (fun q _ _ => strLen q)
            case atStart => exact ⟨_, [], none, 0, rfl, rfl, hst⟩
            case round =>
              clear hst
              obtain ⟨q, es, ao, cp, rfl, rfl, HS⟩ := hrel
              have out : headDigit q.data.toList = false → Hid (extsR 3 l0 [] = some (es, q.data.toList)) := fun h => Lib.hid (HS.out.stop h)
              have hqs := HS.out.short
              cases hqe : q.toList.isEmpty
              · have hq0 : 0 < q.size := by rw [size_eq]; exact List.length_pos_iff.2 (nonempty_of hqe)
                have hqb := (q[0]'hq0).toNat_lt
                have hhd := headDigit_at hq0
                by_cases hlo : 48 ≤ (q[0]'hq0).toNat
                · by_cases hhi : (q[0]'hq0).toNat ≤ 57
                  · have hdig : Hid (headDigit q.data.toList = true) := Lib.hid (hhd.trans ((digit_iff _).2 ⟨hlo, hhi⟩))
                    clear out hhd
                    go_wp2_with fail
                    go_loopw [10] (fun i w2 => ∃ m : Nat, m ≤ q.size ∧ i = .int .i64 m ∧ Hid ((q.data.toList.take m).all notX = true) ∧ w2 = wr) (fun i _ => q.size - (intOf i).toNat)
                    case atStart => exact ⟨0, Nat.zero_le _, rfl, rfl, rfl⟩
                    case round =>
                      obtain ⟨m, hms, rfl, hall, rfl⟩ := hrel
                      by_cases hlt : m < q.size
                      · have hbm := (q[m]'hlt).toNat_lt
                        cases hx : (((q[m]'hlt).toNat : Int) != 120)
                        · have hst := Lib.hid (x_stop hall.out hlt (show notX (q[m]'hlt) = false by unfold notX bIs; simpa using hx))
                          go_wp2_with fail
                          refine (Num_1000 _ _).mono ?_
                          rintro e w2 ⟨n2, ok2, rfl, hn2, rfl⟩
                          rw [front_extract, ← hst.out.1] at hn2
                          have HN2 := Lib.hid hn2
                          clear hn2
                          obtain ⟨t0, t1, t2, t3, tf⟩ := cells4 HS.out.t
                          obtain ⟨r0, r1, r2, r3, rf⟩ := cells4 HS.out.res
                          have hmne : ((m : Int) == (q.size : Int)) = false := by rw [beq_eq_false_iff_ne]; omega
                          cases ok2
                          · have hy := Lib.hid (HRD.out _ (HS.out.bad hdig.out (.inl (by rw [HN2.out]))))
                            go_wp2_with fail
                            refine bodyPost_ret (v := .tuple #[.agg #[.int .i64 0, .int .i64 0, .slice none 0 0, .string ⟨#[]⟩], .bool false]) (results_cell_tmp Tryz.results10 rfl rfl (HS.out.fail hy.out).1) rfl ?_
                            exact (HS.out.fail hy.out).2
                          · cases h3 : ((es.length : Int) == 3)
                            · have h3n : ¬ es.length = 3 := by rw [beq_eq_false_iff_ne] at h3; omega
                              have hmul := mul_ok HS.out h3n HN2.out
                              go_wp2_with (at_builtin; refine wp_append_int rfl _ _ rfl HS.out.own HS.out.size HS.out.n3 rfl rfl ?_; intro ao' c' w3 hown hbel; have HOWN := Lib.hid hown; have HBEL := Lib.hid hbel; have ycells := cells4 ((hbel.block (w.heap.size + 1) (by omega)).trans HS.out.t); have y2 := ycells.2.2.1; have yf := ycells.2.2.2.2; clear hown hbel ycells)
                              go_roundw
                              case rel => exact ⟨_, es ++ [(n2 : Int)], ao', c', rfl, by rw [prodL_snoc, hmul], HS.out.next hdig.out HN2.out hst.out.2 (back_extract q (m + 1)) h3n HOWN.out HBEL.out⟩
                              case measure => simp only [strLen, ByteArray.size_extract]; omega
                            · have hy := Lib.hid (HRD.out _ (HS.out.bad hdig.out (.inr (.inr (by rw [beq_iff_eq] at h3; omega)))))
                              go_wp2_with fail
                              refine bodyPost_ret (v := .tuple #[.agg #[.int .i64 0, .int .i64 0, .slice none 0 0, .string ⟨#[]⟩], .bool false]) (results_cell_tmp Tryz.results10 rfl rfl (HS.out.fail hy.out).1) rfl ?_
                              exact (HS.out.fail hy.out).2
                        · have hnx := Lib.hid (show notX (q[m]'hlt) = true by unfold notX bIs; simpa using hx)
                          go_wp2_with fail
                          go_roundw
                          case rel => exact ⟨m + 1, by omega, by go_num, x_step hall.out hlt hnx.out, trivial⟩
                          case measure => simp [intOf]; omega
                      · obtain rfl : m = q.size := by omega
                        have hy := Lib.hid (HRD.out _ (HS.out.bad hdig.out (.inr (.inl (tw_all (by have := hall.out; rwa [List.take_of_length_le (by simp)] at this)).2))))
                        obtain ⟨t0, t1, t2, t3, tf⟩ := cells4 HS.out.t
                        obtain ⟨r0, r1, r2, r3, rf⟩ := cells4 HS.out.res
                        go_wp2_with fail
                        refine (Num_1000 _ _).mono ?_
                        rintro e w2 ⟨n2, ok2, rfl, hn2, rfl⟩
                        clear hn2
                        cases ok2
                        · go_wp2_with fail
                          refine bodyPost_ret (v := .tuple #[.agg #[.int .i64 0, .int .i64 0, .slice none 0 0, .string ⟨#[]⟩], .bool false]) (results_cell_tmp Tryz.results10 rfl rfl (HS.out.fail hy.out).1) rfl ?_
                          exact (HS.out.fail hy.out).2
                        · go_wp2_with fail
                          refine bodyPost_ret (v := .tuple #[.agg #[.int .i64 0, .int .i64 0, .slice none 0 0, .string ⟨#[]⟩], .bool false]) (results_cell_tmp Tryz.results10 rfl rfl (HS.out.fail hy.out).1) rfl ?_
                          exact (HS.out.fail hy.out).2
                  · have ho := out (by rw [hhd]; simp only [Bool.eq_false_iff]; exact fun h => hhi ((digit_iff _).1 h).2)
                    clear out hhd
                    go_wp2_with fail
                    refine (number_some_ref q _).mono ?_
                    rintro e w2 ⟨n2, ix2, ok2, rfl, hn2, rfl⟩
                    have HN2 := Lib.hid hn2
                    clear hn2
                    obtain ⟨t0, t1, t2, t3, tf⟩ := cells4 HS.out.t
                    obtain ⟨r0, r1, r2, r3, rf⟩ := cells4 HS.out.res
                    have hfin : readR s.data.toList = if (numberR q.data.toList).2.2 = true ∧ prodL es ≤ 4096 then some (2, 0, es, q.data.toList) else none := HRD.out _ ho.out
                    rw [HN2.out] at hfin
                    have HF := Lib.hid hfin
                    clear hfin
                    cases ok2
                    · go_wp2_with fail
                      refine bodyPost_ret (v := .tuple #[.agg #[.int .i64 0, .int .i64 0, .slice none 0 0, .string ⟨#[]⟩], .bool false]) (results_cell_tmp Tryz.results10 rfl rfl (tVar (set4_block (HS.out.el _).1))) rfl ?_
                      exact read_no (HF.out.trans (if_neg (fun h => Bool.false_ne_true h.1))) (set4_below (HS.out.el _).2 (Nat.le_refl _))
                    · by_cases hpr : prodL es ≤ 4096
                      · have hy := Lib.hid (HF.out.trans (if_pos ⟨rfl, hpr⟩))
                        go_wp2_with fail
                        refine bodyPost_ret (v := .tuple #[.agg #[.int .i64 2, .int .i64 0, .slice ao es.length cp, .string q], .bool true]) (results_cell_tmp Tryz.results10 rfl rfl (tVar (set4_block (HS.out.el _).1))) rfl ?_
                        exact HS.out.yes hy.out
                      · have hy := Lib.hid (HF.out.trans (if_neg (fun h => hpr h.2)))
                        go_wp2_with fail
                        refine bodyPost_ret (v := .tuple #[.agg #[.int .i64 0, .int .i64 0, .slice none 0 0, .string ⟨#[]⟩], .bool false]) (results_cell_tmp Tryz.results10 rfl rfl (tVar (set4_block (HS.out.el _).1))) rfl ?_
                        exact read_no hy.out (set4_below (HS.out.el _).2 (Nat.le_refl _))
                · have ho := out (by rw [hhd]; simp only [Bool.eq_false_iff]; exact fun h => hlo ((digit_iff _).1 h).1)
                  clear out hhd
                  go_wp2_with fail
                  refine (number_some_ref q _).mono ?_
                  rintro e w2 ⟨n2, ix2, ok2, rfl, hn2, rfl⟩
                  have HN2 := Lib.hid hn2
                  clear hn2
                  obtain ⟨t0, t1, t2, t3, tf⟩ := cells4 HS.out.t
                  obtain ⟨r0, r1, r2, r3, rf⟩ := cells4 HS.out.res
                  have hfin : readR s.data.toList = if (numberR q.data.toList).2.2 = true ∧ prodL es ≤ 4096 then some (2, 0, es, q.data.toList) else none := HRD.out _ ho.out
                  rw [HN2.out] at hfin
                  have HF := Lib.hid hfin
                  clear hfin
                  cases ok2
                  · go_wp2_with fail
                    refine bodyPost_ret (v := .tuple #[.agg #[.int .i64 0, .int .i64 0, .slice none 0 0, .string ⟨#[]⟩], .bool false]) (results_cell_tmp Tryz.results10 rfl rfl (tVar (set4_block (HS.out.el _).1))) rfl ?_
                    exact read_no (HF.out.trans (if_neg (fun h => Bool.false_ne_true h.1))) (set4_below (HS.out.el _).2 (Nat.le_refl _))
                  · by_cases hpr : prodL es ≤ 4096
                    · have hy := Lib.hid (HF.out.trans (if_pos ⟨rfl, hpr⟩))
                      go_wp2_with fail
                      refine bodyPost_ret (v := .tuple #[.agg #[.int .i64 2, .int .i64 0, .slice ao es.length cp, .string q], .bool true]) (results_cell_tmp Tryz.results10 rfl rfl (tVar (set4_block (HS.out.el _).1))) rfl ?_
                      exact HS.out.yes hy.out
                    · have hy := Lib.hid (HF.out.trans (if_neg (fun h => hpr h.2)))
                      go_wp2_with fail
                      refine bodyPost_ret (v := .tuple #[.agg #[.int .i64 0, .int .i64 0, .slice none 0 0, .string ⟨#[]⟩], .bool false]) (results_cell_tmp Tryz.results10 rfl rfl (tVar (set4_block (HS.out.el _).1))) rfl ?_
                      exact read_no hy.out (set4_below (HS.out.el _).2 (Nat.le_refl _))
              · have ho := out (by rw [empty_of hqe]; rfl)
                clear out
                go_wp2_with fail
                refine (number_some_ref q _).mono ?_
                rintro e w2 ⟨n2, ix2, ok2, rfl, hn2, rfl⟩
                have HN2 := Lib.hid hn2
                clear hn2
                obtain ⟨t0, t1, t2, t3, tf⟩ := cells4 HS.out.t
                obtain ⟨r0, r1, r2, r3, rf⟩ := cells4 HS.out.res
                have hfin : readR s.data.toList = if (numberR q.data.toList).2.2 = true ∧ prodL es ≤ 4096 then some (2, 0, es, q.data.toList) else none := HRD.out _ ho.out
                rw [HN2.out] at hfin
                have HF := Lib.hid hfin
                clear hfin
                cases ok2
                · go_wp2_with fail
                  refine bodyPost_ret (v := .tuple #[.agg #[.int .i64 0, .int .i64 0, .slice none 0 0, .string ⟨#[]⟩], .bool false]) (results_cell_tmp Tryz.results10 rfl rfl (tVar (set4_block (HS.out.el _).1))) rfl ?_
                  exact read_no (HF.out.trans (if_neg (fun h => Bool.false_ne_true h.1))) (set4_below (HS.out.el _).2 (Nat.le_refl _))
                · by_cases hpr : prodL es ≤ 4096
                  · have hy := Lib.hid (HF.out.trans (if_pos ⟨rfl, hpr⟩))
                    go_wp2_with fail
                    refine bodyPost_ret (v := .tuple #[.agg #[.int .i64 2, .int .i64 0, .slice ao es.length cp, .string q], .bool true]) (results_cell_tmp Tryz.results10 rfl rfl (tVar (set4_block (HS.out.el _).1))) rfl ?_
                    exact HS.out.yes hy.out
                  · have hy := Lib.hid (HF.out.trans (if_neg (fun h => hpr h.2)))
                    go_wp2_with fail
                    refine bodyPost_ret (v := .tuple #[.agg #[.int .i64 0, .int .i64 0, .slice none 0 0, .string ⟨#[]⟩], .bool false]) (results_cell_tmp Tryz.results10 rfl rfl (tVar (set4_block (HS.out.el _).1))) rfl ?_
                    exact read_no hy.out (set4_below (HS.out.el _).2 (Nat.le_refl _))
          · have hr := Lib.hid (HBAD.out hg)
            go_wp2_with fail
            refine bodyPost_ret (v := .tuple #[.agg #[.int .i64 0, .int .i64 0, .slice none 0 0, .string ⟨#[]⟩], .bool false]) (results_cell_tmp Tryz.results10 rfl rfl (tVar HZ.out)) rfl ?_
            exact read_no hr.out HB.out
  · cases ix
    · have hr : Hid (readR s.data.toList = some (0, (n : Int), [], [])) := by
        unfold readR
        rw [HN.out]
        rfl
      go_wp2_with fail
      refine bodyPost_ret (v := .tuple #[.agg #[.int .i64 0, .int .i64 n, .slice none 0 0, .string ⟨#[]⟩], .bool true]) (results_cell_tmp Tryz.results10 rfl rfl (tVar (heap_alloc_new w _))) rfl ?_
      exact read_flat hr.out ((Below.refl w.heap.size w).alloc (Nat.le_refl _) _)
    · have hr : Hid (readR s.data.toList = some (1, 64, [], [])) := by
        have h64 : n = 64 := number_index HN.out
        subst h64
        unfold readR
        rw [HN.out]
        rfl
      go_wp2_with fail
      refine bodyPost_ret (v := .tuple #[.agg #[.int .i64 1, .int .i64 64, .slice none 0 0, .string ⟨#[]⟩], .bool true]) (results_cell_tmp Tryz.results10 rfl rfl (tVar (heap_alloc_new w _))) rfl ?_
      exact read_flat hr.out ((Below.refl w.heap.size w).alloc (Nat.le_refl _) _)

theorem Read_some (s : ByteArray) (hs : s.size ≤ 9223372036854775807) (w : World) : Calls Tryz.prog 10 #[.string s] w fun e w' => Below w.heap.size w w' ∧ ((readR s.data.toList = none ∧ ∃ T : Int, e = .returned (.tuple #[.agg #[.int .i64 T, .int .i64 0, .slice none 0 0, .string ⟨#[]⟩], .bool false])) ∨
    ∃ (k b : Int) (es : List Int) (el : ByteArray) (ao : Option Addr) (c : Nat), readR s.data.toList = some (k, b, es, el.data.toList) ∧ IntsAt w' ao es ∧
      e = .returned (.tuple #[.agg #[.int .i64 k, .int .i64 b, .slice ao es.length c, .string el], .bool true])) := Read_ref s hs w

set_option maxHeartbeats 400000 in
theorem Is_ref (s : ByteArray) (hs : s.size ≤ 9223372036854775807) (w : World) :
    Calls Tryz.prog 29 #[.string s] w fun e w' => e = .returned (.bool (readR s.data.toList).isSome) ∧ Below w.heap.size w w' := by
  go_enter Tryz.func29, Tryz.ntmps29
  go_wp2_with fail
  refine (Read_some s hs _).mono ?_
  rintro e w1 ⟨hb, ⟨hn, T, rfl⟩ | ⟨k, b, es, el, ao, c, hn, _, rfl⟩⟩
  · have HB := Lib.hid hb
    have HN := Lib.hid hn
    clear hb hn
    go_wp2_with fail
    go_ret
    exact ⟨by rw [HN.out]; rfl, HB.out.alloc HB.out.size _⟩
  · have HB := Lib.hid hb
    have HN := Lib.hid hn
    clear hb hn
    go_wp2_with fail
    go_ret
    exact ⟨by rw [HN.out]; rfl, HB.out.alloc HB.out.size _⟩
end Go.Proofs.YtjkhjflemcljdaaGreatDoor
