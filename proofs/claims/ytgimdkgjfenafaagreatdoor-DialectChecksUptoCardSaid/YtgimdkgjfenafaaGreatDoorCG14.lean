import Derived.Test.YtgimdkgjfenafaaGreatDoorCG07
import Derived.Test.YtgimdkgjfenafaaGreatDoorCG13
import Derived.Laws.CopyOwn
import Derived.Test.YtgimdkgjfenafaaGreatDoorCG11
import Derived.Maps.AppendAt
import Derived.Lib.IndexLaws
import Derived.Lib.Join
import Derived.Lib.IndexMore
import Derived.Test.YtgimdkgjfenafaaGreatDoorCG08
namespace Go.Proofs.YtgimdkgjfenafaaGreatDoor
open Go.RowKit
def IntsAt (w : World) (ao : Option Addr) (zs : List Int) : Prop := zs = [] ∨ ∃ a, ao = some a ∧ ∀ j, j < zs.length → w.cell? (a.add j) = some (.int .i64 (zs[j]?.getD 0))
theorem IntsAt.below {w w' : World} {ao : Option Addr} {zs : List Int} (h : IntsAt w ao zs) (hb : Below w.heap.size w w') : IntsAt w' ao zs := by
 rcases h with h | ⟨a, rfl, hc⟩
 ·exact .inl h
 ·refine .inr ⟨a, rfl, fun j hj => ?_⟩
  have := hc j hj
  exact (hb.cell (block_lt_of_cell this)).trans this
def ext3 (n : Nat) (z0 z1 z2 : Ext) : List Int := [z0.1, z1.1, z2.1].take n
def makeRest (k : Int) (n : Nat) (z0 z1 z2 : Ext) (el : List UInt8) : Int × List UInt8 :=
 if numB el = false then (10, []) else if 4096 < prodN n z0.1 z1.1 z2.1 then (2, []) else (0, textSpec k n z0 z1 z2 el)
theorem numB_len {l : List UInt8} (h : numB l = true) : l.length ≤ 60 := by
 unfold numB at h; simp at h; omega
end Go.Proofs.YtgimdkgjfenafaaGreatDoor
namespace Go.Proofs.YtgimdkgjfenafaaGreatDoor
open Go.RowKit
/-! A struct of four cells. -/
theorem cells4 {w : World} {b : Nat} {t : TypeId} {v0 v1 v2 v3 : Value} (h : w.heap[b]? = some (.cells #[v0, v1, v2, v3] t (0, 0))) :
  w.cell? ⟨b, 0, none⟩ = some v0 ∧ w.cell? ⟨b, 1, none⟩ = some v1 ∧ w.cell? ⟨b, 2, none⟩ = some v2 ∧ w.cell? ⟨b, 3, none⟩ = some v3 ∧ ∀ j, w.frozen? ⟨b, j, none⟩ = false := by
 refine ⟨?_, ?_, ?_, ?_, fun j => ?_⟩ <;> simp [World.cell?, World.frozen?, h]
theorem set4_block {w : World} {b : Nat} {t : TypeId} {v0 v1 v2 v3 u0 u1 u2 u3 : Value} (h : w.heap[b]? = some (.cells #[v0, v1, v2, v3] t (0, 0))) :
  ((((w.setCell ⟨b, 0, none⟩ u0).setCell ⟨b, 1, none⟩ u1).setCell ⟨b, 2, none⟩ u2).setCell ⟨b, 3, none⟩ u3).heap[b]? = some (.cells #[u0, u1, u2, u3] t (0, 0)) := by
 have h0 := heap_setCell_same _ b 0 _ t u0 h
 have h1 := heap_setCell_same _ b 1 _ t u1 h0
 have h2 := heap_setCell_same _ b 2 _ t u2 h1
 have h3 := heap_setCell_same _ b 3 _ t u3 h2
 rw [h3]
 rfl
theorem set4_below {B b : Nat} {w0 w : World} {u0 u1 u2 u3 : Value} (hg : Below B w0 w) (hb : B ≤ b) :
  Below B w0 ((((w.setCell ⟨b, 0, none⟩ u0).setCell ⟨b, 1, none⟩ u1).setCell ⟨b, 2, none⟩ u2).setCell ⟨b, 3, none⟩ u3) :=
 (((hg.setCell hb _).setCell hb _).setCell hb _).setCell hb _
theorem tVar {w : World} {b : Nat} {v0 v1 v2 v3 : Value} (h : w.heap[b]? = some (.cells #[v0, v1, v2, v3] 165 (0, 0))) :
  (loadVar 165 ⟨b, 0, none⟩).run Tryz.prog w = .ok (.agg #[v0, v1, v2, v3]) w :=
 run_loadVar_row w b _ _ _ _ _ h Tryz.underlying165 rfl (by kernel_rfl)
def ReadRPost (s : ByteArray) (w : World) (e : Ending) (w' : World) : Prop :=
 Below w.heap.size w w' ∧ ((readR s.data.toList = none ∧ ∃ T : Int, e = .returned (.tuple #[.agg #[.int .i64 T, .int .i64 0, .slice none 0 0, .string ⟨#[]⟩], .bool false])) ∨
  ∃ (k b : Int) (es : List Int) (el : ByteArray) (ao : Option Addr) (c : Nat), readR s.data.toList = some (k, b, es, el.data.toList) ∧ IntsAt w' ao es ∧
   e = .returned (.tuple #[.agg #[.int .i64 k, .int .i64 b, .slice ao es.length c, .string el], .bool true]))
theorem read_no {s : ByteArray} {w w' : World} {T : Int} (h : readR s.data.toList = none) (hb : Below w.heap.size w w') : ReadRPost s w (.returned (.tuple #[.agg #[.int .i64 T, .int .i64 0, .slice none 0 0, .string ⟨#[]⟩], .bool false])) w' := ⟨hb, .inl ⟨h, T, rfl⟩⟩
theorem read_flat {s : ByteArray} {k b : Int} {w w' : World} (h : readR s.data.toList = some (k, b, [], [])) (hb : Below w.heap.size w w') :
  ReadRPost s w (.returned (.tuple #[.agg #[.int .i64 k, .int .i64 b, .slice none 0 0, .string ⟨#[]⟩], .bool true])) w' := ⟨hb, .inr ⟨k, b, [], ⟨#[]⟩, none, 0, h, .inl rfl, rfl⟩⟩
theorem byte_beq {c x : UInt8} {y : Int} (hx : (x.toNat : Int) = y) (h : ((c.toNat : Int) == y) = true) : c = x := by
 rw [beq_iff_eq, ← hx] at h
 exact UInt8.toNat_inj.1 (by omega)
theorem head_beq {s : ByteArray} (h0 : 0 < s.size) {x : UInt8} {y : Int} (hx : (x.toNat : Int) = y) (h : s.data.toList.head? = some x) : (((s[0]'h0).toNat : Int) == y) = true := by
 rw [head_at s h0] at h
 rw [Option.some.inj h, beq_iff_eq, hx]
theorem number_index {l : List UInt8} {n : Nat} (h : numberR l = (n, true, true)) : n = 64 := by
 unfold numberR at h
 split at h
 ·injection h with h _
  exact h.symm
 ·split at h
  ·injection h with _ h
   injection h with h _
   cases h
  ·injection h with _ h
   injection h with h _
   cases h
theorem IsPair_some (s : ByteArray) (w : World) : Calls Tryz.prog 137 #[.string s, .int .i64 59] w fun e w' => ∃ b, e = .returned (.bool b) ∧ isPairR s.data.toList 59 = b ∧ w = w' :=
 (IsPair_ref s 59 (by decide) w).mono fun _ _ ⟨he, hw⟩ => ⟨_, he, rfl, hw⟩
theorem last_beq {s : ByteArray} (h : s.size - 1 < s.size) : ((((s[s.size - 1]'h).toNat : Int) != 62) = false ↔ s.data.toList.getLast? = some 62) := by
 have hl : s.data.toList.length - 1 < s.data.toList.length := by simpa using h
 have e : s.data.toList.getLast? = some (s[s.size - 1]'h) := by
  rw [List.getLast?_eq_getElem?, List.getElem?_eq_getElem hl]
  have : s.data.toList.length - 1 = s.size - 1 := by simp
  congr 1
 rw [e, Option.some.injEq, bne_eq_false_iff_eq]
 constructor
 ·intro h
  exact UInt8.toNat_inj.1 (by simpa using (by omega : (s[s.size - 1]'_).toNat = 62))
 ·intro h
  rw [h]; rfl
theorem headDigit_at {s : ByteArray} (h : 0 < s.size) : headDigit s.data.toList = bDigit (s[0]'h) := by
 have := head_at s h
 cases hl : s.data.toList with
 | nil => rw [hl] at this; cases this
 | cons c l =>
  rw [hl] at this
  have e : c = s[0]'h := Option.some.inj this
  rw [← e]; rfl
def strLen : Value → Nat
 | .string s => s.size
 | _ => 0
structure RSt (w : World) (k : Int) (l0 : List UInt8) (es : List Int) (q : ByteArray) (ao : Option Addr) (c : Nat) (wr : World) : Prop where
 n3 : es.length ≤ 3
 ran : ∀ x ∈ es, 0 ≤ x ∧ x ≤ 1000
 res : wr.heap[w.heap.size]? = some (.cells #[.int .i64 0, .int .i64 0, .slice none 0 0, .string ⟨#[]⟩] 165 (0, 0))
 t : wr.heap[w.heap.size + 1]? = some (.cells #[.int .i64 k, .int .i64 0, .slice ao es.length c, .string ⟨#[]⟩] 165 (0, 0))
 own : wr.ownsRow (w.heap.size + 2) 3 1 (.slice ao es.length c) es.length (es.map (.int .i64))
 bel : Below w.heap.size w wr
 size : w.heap.size + 2 ≤ wr.heap.size
 eq : extsR (3 - es.length) q.data.toList es = extsR 3 l0 []
 short : q.size ≤ 9223372036854775807
theorem RSt.start {w : World} {k : Int} {q : ByteArray} (hq : q.size ≤ 9223372036854775807) : RSt w k q.data.toList [] q none 0 ((w.alloc (.cells #[.int .i64 0, .int .i64 0, .slice none 0 0, .string ⟨#[]⟩] 165)).alloc (.cells #[.int .i64 k, .int .i64 0, .slice none 0 0, .string ⟨#[]⟩] 165)) := by
 refine ⟨by decide, (fun x hx => by cases hx), ?_, ?_, ⟨rfl, .inl ⟨rfl, rfl⟩⟩, ?_, ?_, rfl, hq⟩
 ·exact (Below.heap_alloc _ _ _ (by simp)).trans (heap_alloc_new _ _)
 ·have := heap_alloc_new (w.alloc (.cells #[.int .i64 0, .int .i64 0, .slice none 0 0, .string ⟨#[]⟩] 165)) (.cells #[.int .i64 k, .int .i64 0, .slice none 0 0, .string ⟨#[]⟩] 165)
  simpa using this
 ·exact ((Below.refl w.heap.size w).alloc (Nat.le_refl _) _).alloc (by simp) _
 ·simp
theorem RSt.stop {w : World} {k : Int} {l0 : List UInt8} {es : List Int} {q : ByteArray} {ao : Option Addr} {c : Nat} {wr : World} (h : RSt w k l0 es q ao c wr) (hd : headDigit q.data.toList = false) : extsR 3 l0 [] = some (es, q.data.toList) := by
 rw [← h.eq, extsR_eq, if_pos hd]
theorem mid_extract (s : ByteArray) (h : 5 ≤ s.size) : (s.extract 4 (s.size - 1)).data.toList = (s.data.toList.drop 4).dropLast := by
 have hl : s.data.toList.length = s.size := by simp
 rw [extract_toList, List.dropLast_eq_take, List.length_drop, List.drop_take, hl, show s.size - 1 - 4 = s.size - 4 - 1 by omega]
theorem x_step {s : ByteArray} {m : Nat} (h : (s.data.toList.take m).all notX = true) (hm : m < s.size) (hp : notX (s[m]'hm) = true) : (s.data.toList.take (m + 1)).all notX = true := by
 have hl : m < s.data.toList.length := by simpa using hm
 rw [take_snoc hl, all_snoc, h, Bool.true_and]
 exact hp
theorem own_slice {w : World} {B n : Nat} {e : TypeId} {v : Value} {xs : List Value} (h : w.ownsRow B e 1 v n xs) : ∃ ao c, v = .slice ao n c := by
 rcases h.2 with ⟨rfl, rfl⟩ | ⟨g, c, _, rfl, _⟩
 ·exact ⟨none, 0, rfl⟩
 ·exact ⟨_, c, rfl⟩
theorem own_below {w : World} {B n : Nat} {e : TypeId} {v : Value} {xs : List Value} (h : w.ownsRow B e 1 v n xs) {b : Nat} (hb : v.ownBlock = some b) : B ≤ b := by
 rcases h.2 with ⟨rfl, _⟩ | ⟨g, c, _, rfl, hg, _⟩
 ·cases hb
 ·cases hb
  exact hg
theorem own_ints {w : World} {B n : Nat} {ao : Option Addr} {c : Nat} {es : List Int} (h : w.ownsRow B 3 1 (.slice ao n c) n (es.map (.int .i64))) (hn : n = es.length) : IntsAt w ao es := by
 rcases h.2 with ⟨_, h0⟩ | ⟨g, c', cur, hv, _, hg, _, _, _, hcur⟩
 ·rw [h0] at hn
  exact .inl (List.eq_nil_of_length_eq_zero hn.symm)
 ·cases hv
  refine .inr ⟨_, rfl, fun j hj => ?_⟩
  have h1 : (cur.toList.take (n * 1))[j]? = some (.int .i64 (es[j]?.getD 0)) := by
   rw [hcur, List.getElem?_map, List.getElem?_eq_getElem hj]; rfl
  rw [List.getElem?_take_of_lt (by omega)] at h1
  rw [Addr.add_lit, cell_of_row _ _ _ _ _ _ hg]
  simpa using h1
theorem info_int : ∃ i, Tryz.prog.info? 3 = some i ∧ i.zero = some (.int .i64 0) ∧ i.size = 1 ∧ i.bytes = 8 := by
 have h1 : (Tryz.prog.info? 3).map (·.zero) = some (some (.int .i64 0)) := by kernel_rfl
 have h2 : (Tryz.prog.info? 3).map (·.size) = some 1 := by kernel_rfl
 have h3 : (Tryz.prog.info? 3).map (·.bytes) = some 8 := by kernel_rfl
 cases hi : Tryz.prog.info? 3 with
 | none => rw [hi] at h1; cases h1
 | some i =>
  rw [hi] at h1 h2 h3
  exact ⟨i, rfl, Option.some.inj h1, Option.some.inj h2, Option.some.inj h3⟩
theorem append_run {w : World} {B : Nat} {ao : Option Addr} {c : Nat} {es : List Int} (h : w.ownsRow B 3 1 (.slice ao es.length c) es.length (es.map (.int .i64))) (hB : B ≤ w.heap.size) (h3 : es.length ≤ 3) (x : Int) (T : TypeId) {ty : TypeId} :
  ∃ ao' c' w', (Builtin.append_ #[56, 56] ty #[.slice ao es.length c, .slice (some ⟨w.heap.size, 0, none⟩) 1 1]).run Tryz.prog (w.alloc (.cells #[.int .i64 x] T)) = .ok (.slice ao' (es.length + 1) c') w' ∧
   w'.ownsRow B 3 1 (.slice ao' (es ++ [x]).length c') (es ++ [x]).length ((es ++ [x]).map (.int .i64)) ∧ Below B w w' ∧ w.heap.size ≤ w'.heap.size := by
 obtain ⟨i, hi, hz, hsz, hby⟩ := info_int
 have hown : (w.alloc (.cells #[.int .i64 x] T)).ownsRow B 3 1 (.slice ao es.length c) es.length (es.map (.int .i64)) := by
  refine ⟨h.1, ?_⟩
  rcases h.2 with h | ⟨g, c', cur, hv, hb, hg, hr⟩
  ·exact .inl h
  ·exact .inr ⟨g, c', cur, hv, hb, (Below.heap_alloc _ _ _ (lt_of_block hg)).trans hg, hr⟩
 have hcell : ∀ j u, [Value.int .i64 x][j]? = some u → (w.alloc (.cells #[.int .i64 x] T)).cell? ((⟨w.heap.size, 0, none⟩ : Addr).add j) = some u := by
  intro j u hj
  cases j with
  | zero =>
   simp only [List.getElem?_cons_zero, Option.some.injEq] at hj
   subst hj
   rw [Addr.add_lit, cell_of_row _ _ _ _ _ _ (heap_alloc_new _ _)]
   rfl
  | succ j => simp at hj
 obtain ⟨v', w', hr, h1, h2, _, h4⟩ := run_append_own_at (P := Tryz.prog) (w.alloc (.cells #[.int .i64 x] T)) B 56 ty 3 i (.int .i64 0) 1 8 Tryz.underlying56 hi hz hsz hby rfl (by decide)
  (.slice ao es.length c) es.length (es.map (.int .i64)) hown ⟨w.heap.size, 0, none⟩ 1 1 [.int .i64 x] rfl hcell (fun u hu => by simp only [List.mem_singleton] at hu; subst hu; rfl) (by simp only [maxLen]; omega) (by omega) (by simp; omega)
 obtain ⟨ao', c', rfl⟩ := own_slice h1
 refine ⟨ao', c', w', hr, ?_, ?_, ?_⟩
 ·rw [List.length_append, List.map_append]
  exact h1
 ·refine ⟨h2.os.trans rfl, h2.tape.trans rfl, h2.output.trans rfl, ?_, fun k hk => ?_⟩
  ·have := h2.size; simp at this; omega
  ·rw [h2.block k (by simp; omega) (fun e => by
    have := own_below hown e.symm
    omega)]
   exact Below.heap_alloc _ _ _ (by omega)
 ·have := h2.size; simp at this; omega
theorem wp_append_int {ops : Array Oper} {rest : List Oper} {o : Oper} {a : Act} {Q : Exit → Act → World → Prop} {w : World} (hgd : o.guard = none) (s x : Operand)
  (ho : o.op = .call { callee := .builtin .append, args := #[s, x], argTypes := #[56, 56] }) {B : Nat} {ao : Option Addr} {c : Nat} {es : List Int} {n : Int}
  (h : w.ownsRow B 3 1 (.slice ao es.length c) es.length (es.map (.int .i64))) (hB : B ≤ w.heap.size) (h3 : es.length ≤ 3) (hs : a.eval s = .slice ao es.length c) (hx : a.eval x = .slice (some ⟨w.heap.size, 0, none⟩) 1 1)
  (hk : ∀ ao' c' w', w'.ownsRow B 3 1 (.slice ao' (es ++ [n]).length c') (es ++ [n]).length ((es ++ [n]).map (.int .i64)) → Below B w w' → wpList Tryz.prog ops Q rest (a.put o.dst (.slice ao' (es.length + 1) c')) w') :
  wpList Tryz.prog ops Q (o :: rest) a (w.alloc (.cells #[.int .i64 n] 3)) := by
 obtain ⟨ao', c', w', hr, h1, h2, _⟩ := append_run (ty := o.type) h hB h3 n 3
 refine wpList_plain hgd fun K hK => ?_
 unfold Oper.wp execOp
 simp only [ho, resolve, invoke, builtin, Sem.run_bind, Sem.run_pure, Result.andThen_ok, List.map_toArray, List.map_cons, List.map_nil, hs, hx, hr]
 exact hK _ _ (hk ao' c' w' h1 h2)
theorem ran_prod {es : List Int} (h3 : es.length ≤ 2) (hr : ∀ x ∈ es, 0 ≤ x ∧ x ≤ 1000) : 0 ≤ prodL es ∧ prodL es ≤ 1000000 := by
 match es, h3 with
 | [], _ => decide
 | [a], _ =>
  have h1 := hr a (by simp)
  simp only [prodL, List.foldl_cons, List.foldl_nil, Int.one_mul]
  omega
 | [a, b], _ =>
  have h1 := hr a (by simp)
  have h2 := hr b (by simp)
  simp only [prodL, List.foldl_cons, List.foldl_nil, Int.one_mul]
  have := Int.mul_le_mul h1.2 h2.2 h2.1 (by omega)
  exact ⟨Int.mul_nonneg h1.1 h2.1, by omega⟩
theorem prodL_snoc (es : List Int) (x : Int) : prodL (es ++ [x]) = prodL es * x := by
 unfold prodL
 rw [List.foldl_append]
 rfl
theorem own_kept {w w' : World} {B n : Nat} {e : TypeId} {v : Value} {xs : List Value} (h : w.ownsRow B e 1 v n xs) (hk : ∀ k, B ≤ k → w'.heap[k]? = w.heap[k]?) : w'.ownsRow B e 1 v n xs := by
 refine ⟨h.1, ?_⟩
 rcases h.2 with h | ⟨g, c, cur, hv, hb, hg, hr⟩
 ·exact .inl h
 ·exact .inr ⟨g, c, cur, hv, hb, (hk g hb).trans hg, hr⟩
theorem mul_ok {w : World} {k : Int} {l0 : List UInt8} {es : List Int} {q : ByteArray} {ao : Option Addr} {c : Nat} {wr : World} (h : RSt w k l0 es q ao c wr) (h3 : ¬ es.length = 3) {l : List UInt8} {n : Nat} (hn : numR l 1000 = (n, true)) : wrap64 (prodL es * n) = prodL es * n := by
 have hb := ran_prod (es := es) (by have := h.n3; omega) h.ran
 have h1000 : n ≤ 1000 := by
  have := numR_yes (l := l) (m := 1000) (by rw [hn])
  rw [hn] at this
  have h1 := this.2.2.2.1
  have h2 := this.2.2.2.2.1
  simp only at h1
  omega
 have h1 : prodL es * n ≤ 1000000 * 1000 := Int.mul_le_mul hb.2 (by omega) (by omega) (by omega)
 have h2 : 0 ≤ prodL es * n := Int.mul_nonneg hb.1 (by omega)
 unfold wrap64
 omega
theorem RSt.fail {s : ByteArray} {w : World} {k : Int} {l0 : List UInt8} {es : List Int} {q : ByteArray} {ao : Option Addr} {c : Nat} {wr : World} (h : RSt w k l0 es q ao c wr) (hr : readR s.data.toList = none) :
  (loadVar 165 ⟨w.heap.size, 0, none⟩).run Tryz.prog ((((wr.setCell ⟨w.heap.size, 0, none⟩ (.int .i64 0)).setCell ⟨w.heap.size, 1, none⟩ (.int .i64 0)).setCell ⟨w.heap.size, 2, none⟩ (.slice none 0 0)).setCell ⟨w.heap.size, 3, none⟩ (.string ⟨#[]⟩)) =
   .ok (.agg #[.int .i64 0, .int .i64 0, .slice none 0 0, .string ⟨#[]⟩]) ((((wr.setCell ⟨w.heap.size, 0, none⟩ (.int .i64 0)).setCell ⟨w.heap.size, 1, none⟩ (.int .i64 0)).setCell ⟨w.heap.size, 2, none⟩ (.slice none 0 0)).setCell ⟨w.heap.size, 3, none⟩ (.string ⟨#[]⟩)) ∧
  ReadRPost s w (.returned (.tuple #[.agg #[.int .i64 0, .int .i64 0, .slice none 0 0, .string ⟨#[]⟩], .bool false])) ((((wr.setCell ⟨w.heap.size, 0, none⟩ (.int .i64 0)).setCell ⟨w.heap.size, 1, none⟩ (.int .i64 0)).setCell ⟨w.heap.size, 2, none⟩ (.slice none 0 0)).setCell ⟨w.heap.size, 3, none⟩ (.string ⟨#[]⟩)) :=
 ⟨tVar (set4_block h.res), read_no hr (set4_below h.bel (Nat.le_refl _))⟩
theorem RSt.el {w : World} {k : Int} {l0 : List UInt8} {es : List Int} {q : ByteArray} {ao : Option Addr} {c : Nat} {wr : World} (h : RSt w k l0 es q ao c wr) (v : Value) :
  (wr.setCell ⟨w.heap.size + 1, 3, none⟩ v).heap[w.heap.size]? = some (.cells #[.int .i64 0, .int .i64 0, .slice none 0 0, .string ⟨#[]⟩] 165 (0, 0)) ∧ Below w.heap.size w (wr.setCell ⟨w.heap.size + 1, 3, none⟩ v) :=
 ⟨by rw [heap_setCell_other _ _ _ _ (by dsimp only; omega)]; exact h.res, h.bel.setCell (by dsimp only; omega) _⟩
theorem RSt.yes {s : ByteArray} {w : World} {k : Int} {l0 : List UInt8} {es : List Int} {q : ByteArray} {ao : Option Addr} {c : Nat} {wr : World} (h : RSt w k l0 es q ao c wr) (hr : readR s.data.toList = some (k, 0, es, q.data.toList)) :
  ReadRPost s w (.returned (.tuple #[.agg #[.int .i64 k, .int .i64 0, .slice ao es.length c, .string q], .bool true]))
   (((((wr.setCell ⟨w.heap.size + 1, 3, none⟩ (.string q)).setCell ⟨w.heap.size, 0, none⟩ (.int .i64 k)).setCell ⟨w.heap.size, 1, none⟩ (.int .i64 0)).setCell ⟨w.heap.size, 2, none⟩ (.slice ao es.length c)).setCell ⟨w.heap.size, 3, none⟩ (.string q)) := by
 refine ⟨set4_below (h.el _).2 (Nat.le_refl _), .inr ⟨k, 0, es, q, ao, c, hr, ?_, rfl⟩⟩
 refine own_ints (B := w.heap.size + 2) (c := c) (own_kept h.own fun j hj => ?_) rfl
 rw [heap_setCell_other _ _ _ _ (by dsimp only; omega), heap_setCell_other _ _ _ _ (by dsimp only; omega), heap_setCell_other _ _ _ _ (by dsimp only; omega), heap_setCell_other _ _ _ _ (by dsimp only; omega), heap_setCell_other _ _ _ _ (by dsimp only; omega)]
theorem x_stop {q : ByteArray} {m : Nat} (h : (q.data.toList.take m).all notX = true) (hm : m < q.size) (hx : notX (q[m]'hm) = false) :
  q.data.toList.takeWhile notX = q.data.toList.take m ∧ q.data.toList.dropWhile notX = q[m]'hm :: q.data.toList.drop (m + 1) := by
 have hl : m < q.data.toList.length := by simpa using hm
 have hcat : q.data.toList = q.data.toList.take m ++ q[m]'hm :: q.data.toList.drop (m + 1) := by
  conv => lhs; rw [← List.take_append_drop m q.data.toList, List.drop_eq_getElem_cons hl]
  rfl
 obtain ⟨h1, h2⟩ := tw_append (p := notX) (m := q[m]'hm :: q.data.toList.drop (m + 1)) h
 rw [← hcat] at h1 h2
 simp only [List.takeWhile_cons, hx, List.dropWhile_cons, List.append_nil, Bool.false_eq_true, if_false] at h1 h2
 exact ⟨h1, h2⟩
theorem Num_1000 (s : ByteArray) (w : World) : Calls Tryz.prog 138 #[.string s, .int .i64 1000] w fun e w' => ∃ (n : Nat) (ok : Bool), e = .returned (.tuple #[.int .i64 n, .bool ok]) ∧ numR s.data.toList 1000 = (n, ok) ∧ w = w' :=
 (Num_any s 1000 w).mono fun _ _ ⟨he, hw⟩ => ⟨_, _, he, rfl, hw⟩
theorem RSt.bad {w : World} {k : Int} {l0 : List UInt8} {es : List Int} {q : ByteArray} {ao : Option Addr} {c : Nat} {wr : World} (h : RSt w k l0 es q ao c wr) (hd : headDigit q.data.toList = true)
  (hb : (numR (q.data.toList.takeWhile notX) 1000).2 = false ∨ q.data.toList.dropWhile notX = [] ∨ es.length = 3) : extsR 3 l0 [] = none := by
 rw [← h.eq, extsR_eq, if_neg (by rw [hd]; decide)]
 rcases hb with hb | hb | hb
 ·rw [if_pos (.inl hb)]
 ·rw [if_pos (.inr hb)]
 ·rw [hb]
  simp
theorem RSt.next {w : World} {k : Int} {l0 : List UInt8} {es : List Int} {q q' : ByteArray} {ao ao' : Option Addr} {c c' : Nat} {wr w2 : World} (h : RSt w k l0 es q ao c wr) (hd : headDigit q.data.toList = true) {n : Nat}
  (hn : numR (q.data.toList.takeWhile notX) 1000 = (n, true)) {x : UInt8} {r : List UInt8} (hx : q.data.toList.dropWhile notX = x :: r) (hq : q'.data.toList = r) (h3 : ¬ es.length = 3)
  (hown : w2.ownsRow (w.heap.size + 2) 3 1 (.slice ao' (es ++ [(n : Int)]).length c') (es ++ [(n : Int)]).length ((es ++ [(n : Int)]).map (.int .i64))) (hb : Below (w.heap.size + 2) wr w2) :
  RSt w k l0 (es ++ [(n : Int)]) q' ao' c' (w2.setCell ⟨w.heap.size + 1, 2, none⟩ (.slice ao' (es.length + 1) c')) := by
 have hl3 := h.n3
 have hle : (es ++ [(n : Int)]).length = es.length + 1 := by simp
 have h1000 : n ≤ 1000 := by
  have := numR_yes (l := q.data.toList.takeWhile notX) (m := 1000) (by rw [hn])
  rw [hn] at this
  have h1 := this.2.2.2.1
  have h2 := this.2.2.2.2.1
  simp only at h1
  omega
 have ht := (hb.block (w.heap.size + 1) (by omega)).trans h.t
 refine ⟨by omega, ?_, ?_, ?_, ?_, ?_, ?_, ?_, ?_⟩
 ·intro y hy
  rcases List.mem_append.1 hy with hy | hy
  ·exact h.ran y hy
  ·simp only [List.mem_singleton] at hy
   subst hy
   omega
 ·rw [heap_setCell_other _ _ _ _ (by dsimp only; omega)]
  exact (hb.block _ (by omega)).trans h.res
 ·rw [heap_setCell_same _ _ 2 _ _ _ ht, hle]
  rfl
 ·refine ⟨hown.1, ?_⟩
  rcases hown.2 with h' | ⟨g, c2, cur, hv, hg, hgb, hr⟩
  ·exact .inl h'
  ·exact .inr ⟨g, c2, cur, hv, hg, by rw [heap_setCell_other _ _ _ _ (by dsimp only; omega)]; exact hgb, hr⟩
 ·exact (h.bel.trans (hb.mono (by omega))).setCell (by dsimp only; omega) _
 ·rw [setCell_size]
  have := hb.size
  have := h.size
  omega
 ·rw [← h.eq, extsR_eq (3 - es.length), if_neg (by rw [hd]; decide), if_neg, hle, hq]
  ·obtain ⟨m, hm⟩ : ∃ m, 3 - es.length = m + 1 := ⟨2 - es.length, by omega⟩
   rw [hm, show 3 - (es.length + 1) = m by omega, hx, List.tail_cons, hn]
  ·rw [hn, hx]
   simp
 ·have h1 := congrArg List.length (tw_dw (p := notX) q.data.toList)
  rw [List.length_append, hx, ← hq] at h1
  have := h.short
  simp at h1
  omega
set_option maxHeartbeats 16000000 in
set_option maxRecDepth 100000 in
theorem Read_ref (s : ByteArray) (hs : s.size ≤ 9223372036854775807) (w : World) : Calls Tryz.prog 88 #[.string s] w (ReadRPost s w) := by
 have HZ := Lib.hid (heap_alloc_new w (.cells #[.int .i64 0, .int .i64 0, .slice none 0 0, .string ⟨#[]⟩] 165))
 have HB := Lib.hid ((Below.refl w.heap.size w).alloc (Nat.le_refl _) (.cells #[.int .i64 0, .int .i64 0, .slice none 0 0, .string ⟨#[]⟩] 165))
 go_enter Tryz.func88, Tryz.ntmps88
 go_wp2_with fail
 refine (number_some_ref s _).mono ?_
 rintro e w1 ⟨n, ix, ok, rfl, hn, rfl⟩
 have HN := Lib.hid hn
 clear hn
 cases ok
 ·by_cases h33 : 1 < s.size ∧ ∃ h : 0 < s.size, (((s[0]'h).toNat : Int) == 33) = true
  ·obtain ⟨h1, h0, h33⟩ := h33
   have hp : ∀ b, isPairR s.data.toList.tail 59 = b → readR s.data.toList = if b = true then some (4, 0, [], []) else none := by
    intro b hb
    unfold readR
    rw [HN.out, if_neg Bool.false_ne_true, if_pos ⟨by simpa using h1, by rw [head_at s h0]; exact congrArg some (byte_beq (x := 33) (by decide) h33)⟩, hb]
   have HP := Lib.hid hp
   clear hp
   go_wp2_with fail
   refine (IsPair_some _ _).mono ?_
   rintro e w1 ⟨b, rfl, hb, hw⟩
   rw [tail_extract] at hb
   subst hw
   have hr := Lib.hid (HP.out b hb)
   clear hb
   cases b
   ·go_wp2_with fail
    refine bodyPost_ret (v := .tuple #[.agg #[.int .i64 4, .int .i64 0, .slice none 0 0, .string ⟨#[]⟩], .bool false]) (results_cell_tmp Tryz.results88 rfl rfl (tVar (heap_alloc_new w _))) rfl ?_
    exact read_no hr.out ((Below.refl w.heap.size w).alloc (Nat.le_refl _) _)
   ·go_wp2_with fail
    refine bodyPost_ret (v := .tuple #[.agg #[.int .i64 4, .int .i64 0, .slice none 0 0, .string ⟨#[]⟩], .bool true]) (results_cell_tmp Tryz.results88 rfl rfl (tVar (heap_alloc_new w _))) rfl ?_
    exact read_flat hr.out ((Below.refl w.heap.size w).alloc (Nat.le_refl _) _)
  ·by_cases h5 : s.size < 5
   ·have hr : Hid (readR s.data.toList = none) := Lib.hid <| by
     unfold readR
     rw [HN.out, if_neg Bool.false_ne_true, if_neg, if_pos (.inl (by simpa using h5))]
     rintro ⟨h1, h2⟩
     have h0 : 0 < s.size := by have : 1 < s.size := (by simpa using h1); omega
     exact h33 ⟨by simpa using h1, h0, head_beq h0 (x := 33) (by decide) h2⟩
    by_cases h1 : 1 < s.size
    ·have h0 : 0 < s.size := by omega
     have h33' : (((s[0]'h0).toNat : Int) == 33) = false := by
      cases hz : (((s[0]'h0).toNat : Int) == 33)
      ·rfl
      ·exact absurd ⟨h1, h0, hz⟩ h33
     clear h33
     go_wp2_with fail
     refine bodyPost_ret (v := .tuple #[.agg #[.int .i64 0, .int .i64 0, .slice none 0 0, .string ⟨#[]⟩], .bool false]) (results_cell_tmp Tryz.results88 rfl rfl (tVar HZ.out)) rfl ?_
     exact read_no hr.out HB.out
    ·clear h33
     go_wp2_with fail
     refine bodyPost_ret (v := .tuple #[.agg #[.int .i64 0, .int .i64 0, .slice none 0 0, .string ⟨#[]⟩], .bool false]) (results_cell_tmp Tryz.results88 rfl rfl (tVar HZ.out)) rfl ?_
     exact read_no hr.out HB.out
   ·have h1 : 1 < s.size := by omega
    have h0 : 0 < s.size := by omega
    have h33' : (((s[0]'h0).toNat : Int) == 33) = false := by
     cases hz : (((s[0]'h0).toNat : Int) == 33)
     ·rfl
     ·exact absurd ⟨h1, h0, hz⟩ h33
    have h5i : 5 ≤ (s.size : Int) := by omega
    have hlast : s.size - 1 < s.size := by omega
    have hR : readR s.data.toList = (if (s.data.toList.take 4 ≠ memW ∧ s.data.toList.take 4 ≠ arrW) ∨ s.data.toList.getLast? ≠ some 62 then none
      else match extsR 3 ((s.data.toList.drop 4).dropLast) [] with
       | none => none
       | some (es, l2) => if (numberR l2).2.2 = true ∧ prodL es ≤ 4096 then some (if s.data.toList.take 4 = arrW then 3 else 2, 0, es, l2) else none : Option (Int × Int × List Int × List UInt8)) := by
     unfold readR
     rw [HN.out, if_neg Bool.false_ne_true, if_neg]
     ·have h5' : ¬ s.data.toList.length < 5 := by simpa using h5
      simp only [h5', false_or]
      rfl
     ·rintro ⟨_, h2⟩
      rw [head_beq h0 (x := 33) (by decide) h2] at h33'
      cases h33'
    have HR := Lib.hid hR
    clear hR h33
    have h5d : decide ((s.size : Int) < 5) = false := decide_eq_false (by omega)
    have hg62 := last_beq hlast
    have hbad : (((s[s.size - 1]'hlast).toNat : Int) != 62) = true → readR s.data.toList = none := fun h => by
     rw [HR.out, if_pos (.inr fun e => by rw [hg62.2 e] at h; cases h)]
    have HBAD := Lib.hid hbad
    have HG := Lib.hid hg62
    clear hbad hg62
    cases hm : ((s.extract 0 4).toList == [109, 101, 109, 60])
    ·cases ha : ((s.extract 0 4).toList == [97, 114, 114, 60])
     ·have hr := Lib.hid (HR.out.trans (if_pos (.inl ⟨by rw [← front_extract]; exact ne_of_beq_toList hm, by rw [← front_extract]; exact ne_of_beq_toList ha⟩)))
      go_wp2_with fail
      refine bodyPost_ret (v := .tuple #[.agg #[.int .i64 0, .int .i64 0, .slice none 0 0, .string ⟨#[]⟩], .bool false]) (results_cell_tmp Tryz.results88 rfl rfl (tVar HZ.out)) rfl ?_
      exact read_no hr.out HB.out
     ·cases hg : (((s[s.size - 1]'hlast).toNat : Int) != 62)
      ·have hkk : (if s.data.toList.take 4 = arrW then (3 : Int) else 2) = 3 := by rw [← front_extract, eq_of_beq_toList ha]; rfl
       have hrd : ∀ z, extsR 3 (s.extract 4 (s.size - 1)).data.toList [] = z → readR s.data.toList = match z with
         | none => none
         | some (es, l2) => if (numberR l2).2.2 = true ∧ prodL es ≤ 4096 then some (3, 0, es, l2) else none := by
        intro z hz
        rw [HR.out, if_neg, ← mid_extract s (by omega), hz, hkk]
        rintro (⟨h1, h2⟩ | h)
        ·exact h2 (by rw [← front_extract]; exact eq_of_beq_toList ha)
        ·exact h (HG.out.1 hg)
       have HRD := Lib.hid hrd
       have hq63 : (s.extract 4 (s.size - 1)).size ≤ 9223372036854775807 := by rw [ByteArray.size_extract]; omega
       have hst : Hid (RSt w 3 (s.extract 4 (s.size - 1)).data.toList [] (s.extract 4 (s.size - 1)) none 0 _) := RSt.start hq63
       obtain ⟨l0, hl0⟩ : ∃ l0, l0 = (s.extract 4 (s.size - 1)).data.toList := ⟨_, rfl⟩
       rw [← hl0] at hst HRD
       clear hl0 hrd hkk
       go_wp2_with fail
       go_loopw [8, 9] (fun q c wr => ∃ (q' : ByteArray) (es : List Int) (ao : Option Addr) (cp : Nat), q = .string q' ∧ c = .int .i64 (prodL es) ∧ Hid (RSt w 3 l0 es q' ao cp wr)) (fun q _ _ => strLen q)
       case atStart => exact ⟨_, [], none, 0, rfl, rfl, hst⟩
       case round =>
        clear hst
        obtain ⟨q, es, ao, cp, rfl, rfl, HS⟩ := hrel
        have out : headDigit q.data.toList = false → Hid (extsR 3 l0 [] = some (es, q.data.toList)) := fun h => Lib.hid (HS.out.stop h)
        have hqs := HS.out.short
        cases hqe : q.toList.isEmpty
        ·have hq0 : 0 < q.size := by rw [size_eq]; exact List.length_pos_iff.2 (nonempty_of hqe)
         have hqb := (q[0]'hq0).toNat_lt
         have hhd := headDigit_at hq0
         by_cases hlo : 48 ≤ (q[0]'hq0).toNat
         ·by_cases hhi : (q[0]'hq0).toNat ≤ 57
          ·have hdig : Hid (headDigit q.data.toList = true) := Lib.hid (hhd.trans ((digit_iff _).2 ⟨hlo, hhi⟩))
           clear out hhd
           go_wp2_with fail
           go_loopw [10] (fun i w2 => ∃ m : Nat, m ≤ q.size ∧ i = .int .i64 m ∧ Hid ((q.data.toList.take m).all notX = true) ∧ w2 = wr) (fun i _ => q.size - (intOf i).toNat)
           case atStart => exact ⟨0, Nat.zero_le _, rfl, rfl, rfl⟩
           case round =>
            obtain ⟨m, hms, rfl, hall, rfl⟩ := hrel
            by_cases hlt : m < q.size
            ·have hbm := (q[m]'hlt).toNat_lt
             cases hx : (((q[m]'hlt).toNat : Int) != 120)
             ·have hst := Lib.hid (x_stop hall.out hlt (show notX (q[m]'hlt) = false by unfold notX bIs; simpa using hx))
              go_wp2_with fail
              refine (Num_1000 _ _).mono ?_
              rintro e w2 ⟨n2, ok2, rfl, hn2, rfl⟩
              rw [front_extract, ← hst.out.1] at hn2
              have HN2 := Lib.hid hn2
              clear hn2
              obtain ⟨t0, t1, t2, t3, tf⟩ := cells4 HS.out.t
              obtain ⟨r0, r1, r2, r3, rf⟩ := cells4 HS.out.res
              have hmne : ((m : Int) == (q.size : Int)) = false := by rw [beq_eq_false_iff_ne]; omega
              cases ok2
              ·have hy := Lib.hid (HRD.out _ (HS.out.bad hdig.out (.inl (by rw [HN2.out]))))
               go_wp2_with fail
               refine bodyPost_ret (v := .tuple #[.agg #[.int .i64 0, .int .i64 0, .slice none 0 0, .string ⟨#[]⟩], .bool false]) (results_cell_tmp Tryz.results88 rfl rfl (HS.out.fail hy.out).1) rfl ?_
               exact (HS.out.fail hy.out).2
              ·cases h3 : ((es.length : Int) == 3)
               ·have h3n : ¬ es.length = 3 := by rw [beq_eq_false_iff_ne] at h3; omega
                have hmul := mul_ok HS.out h3n HN2.out
                go_wp2_with (at_builtin; refine wp_append_int rfl _ _ rfl HS.out.own HS.out.size HS.out.n3 rfl rfl ?_; intro ao' c' w3 hown hbel; have HOWN := Lib.hid hown; have HBEL := Lib.hid hbel; have ycells := cells4 ((hbel.block (w.heap.size + 1) (by omega)).trans HS.out.t); have y2 := ycells.2.2.1; have yf := ycells.2.2.2.2; clear hown hbel ycells)
                go_roundw
                case rel => exact ⟨_, es ++ [(n2 : Int)], ao', c', rfl, by rw [prodL_snoc, hmul], HS.out.next hdig.out HN2.out hst.out.2 (back_extract q (m + 1)) h3n HOWN.out HBEL.out⟩
                case measure => simp only [strLen, ByteArray.size_extract]; omega
               ·have hy := Lib.hid (HRD.out _ (HS.out.bad hdig.out (.inr (.inr (by rw [beq_iff_eq] at h3; omega)))))
                go_wp2_with fail
                refine bodyPost_ret (v := .tuple #[.agg #[.int .i64 0, .int .i64 0, .slice none 0 0, .string ⟨#[]⟩], .bool false]) (results_cell_tmp Tryz.results88 rfl rfl (HS.out.fail hy.out).1) rfl ?_
                exact (HS.out.fail hy.out).2
             ·have hnx := Lib.hid (show notX (q[m]'hlt) = true by unfold notX bIs; simpa using hx)
              go_wp2_with fail
              go_roundw
              case rel => exact ⟨m + 1, by omega, by go_num, x_step hall.out hlt hnx.out, trivial⟩
              case measure => simp [intOf]; omega
            ·obtain rfl : m = q.size := by omega
             have hy := Lib.hid (HRD.out _ (HS.out.bad hdig.out (.inr (.inl (tw_all (by have := hall.out; rwa [List.take_of_length_le (by simp)] at this)).2))))
             obtain ⟨t0, t1, t2, t3, tf⟩ := cells4 HS.out.t
             obtain ⟨r0, r1, r2, r3, rf⟩ := cells4 HS.out.res
             go_wp2_with fail
             refine (Num_1000 _ _).mono ?_
             rintro e w2 ⟨n2, ok2, rfl, hn2, rfl⟩
             clear hn2
             cases ok2
             ·go_wp2_with fail
              refine bodyPost_ret (v := .tuple #[.agg #[.int .i64 0, .int .i64 0, .slice none 0 0, .string ⟨#[]⟩], .bool false]) (results_cell_tmp Tryz.results88 rfl rfl (HS.out.fail hy.out).1) rfl ?_
              exact (HS.out.fail hy.out).2
             ·go_wp2_with fail
              refine bodyPost_ret (v := .tuple #[.agg #[.int .i64 0, .int .i64 0, .slice none 0 0, .string ⟨#[]⟩], .bool false]) (results_cell_tmp Tryz.results88 rfl rfl (HS.out.fail hy.out).1) rfl ?_
              exact (HS.out.fail hy.out).2
          ·have ho := out (by rw [hhd]; simp only [Bool.eq_false_iff]; exact fun h => hhi ((digit_iff _).1 h).2)
           clear out hhd
           go_wp2_with fail
           refine (number_some_ref q _).mono ?_
           rintro e w2 ⟨n2, ix2, ok2, rfl, hn2, rfl⟩
           have HN2 := Lib.hid hn2
           clear hn2
           obtain ⟨t0, t1, t2, t3, tf⟩ := cells4 HS.out.t
           obtain ⟨r0, r1, r2, r3, rf⟩ := cells4 HS.out.res
           have hfin : readR s.data.toList = if (numberR q.data.toList).2.2 = true ∧ prodL es ≤ 4096 then some (3, 0, es, q.data.toList) else none := HRD.out _ ho.out
           rw [HN2.out] at hfin
           have HF := Lib.hid hfin
           clear hfin
           cases ok2
           ·go_wp2_with fail
            refine bodyPost_ret (v := .tuple #[.agg #[.int .i64 0, .int .i64 0, .slice none 0 0, .string ⟨#[]⟩], .bool false]) (results_cell_tmp Tryz.results88 rfl rfl (tVar (set4_block (HS.out.el _).1))) rfl ?_
            exact read_no (HF.out.trans (if_neg (fun h => Bool.false_ne_true h.1))) (set4_below (HS.out.el _).2 (Nat.le_refl _))
           ·by_cases hpr : prodL es ≤ 4096
            ·have hy := Lib.hid (HF.out.trans (if_pos ⟨rfl, hpr⟩))
             go_wp2_with fail
             refine bodyPost_ret (v := .tuple #[.agg #[.int .i64 3, .int .i64 0, .slice ao es.length cp, .string q], .bool true]) (results_cell_tmp Tryz.results88 rfl rfl (tVar (set4_block (HS.out.el _).1))) rfl ?_
             exact HS.out.yes hy.out
            ·have hy := Lib.hid (HF.out.trans (if_neg (fun h => hpr h.2)))
             go_wp2_with fail
             refine bodyPost_ret (v := .tuple #[.agg #[.int .i64 0, .int .i64 0, .slice none 0 0, .string ⟨#[]⟩], .bool false]) (results_cell_tmp Tryz.results88 rfl rfl (tVar (set4_block (HS.out.el _).1))) rfl ?_
             exact read_no hy.out (set4_below (HS.out.el _).2 (Nat.le_refl _))
         ·have ho := out (by rw [hhd]; simp only [Bool.eq_false_iff]; exact fun h => hlo ((digit_iff _).1 h).1)
          clear out hhd
          go_wp2_with fail
          refine (number_some_ref q _).mono ?_
          rintro e w2 ⟨n2, ix2, ok2, rfl, hn2, rfl⟩
          have HN2 := Lib.hid hn2
          clear hn2
          obtain ⟨t0, t1, t2, t3, tf⟩ := cells4 HS.out.t
          obtain ⟨r0, r1, r2, r3, rf⟩ := cells4 HS.out.res
          have hfin : readR s.data.toList = if (numberR q.data.toList).2.2 = true ∧ prodL es ≤ 4096 then some (3, 0, es, q.data.toList) else none := HRD.out _ ho.out
          rw [HN2.out] at hfin
          have HF := Lib.hid hfin
          clear hfin
          cases ok2
          ·go_wp2_with fail
           refine bodyPost_ret (v := .tuple #[.agg #[.int .i64 0, .int .i64 0, .slice none 0 0, .string ⟨#[]⟩], .bool false]) (results_cell_tmp Tryz.results88 rfl rfl (tVar (set4_block (HS.out.el _).1))) rfl ?_
           exact read_no (HF.out.trans (if_neg (fun h => Bool.false_ne_true h.1))) (set4_below (HS.out.el _).2 (Nat.le_refl _))
          ·by_cases hpr : prodL es ≤ 4096
           ·have hy := Lib.hid (HF.out.trans (if_pos ⟨rfl, hpr⟩))
            go_wp2_with fail
            refine bodyPost_ret (v := .tuple #[.agg #[.int .i64 3, .int .i64 0, .slice ao es.length cp, .string q], .bool true]) (results_cell_tmp Tryz.results88 rfl rfl (tVar (set4_block (HS.out.el _).1))) rfl ?_
            exact HS.out.yes hy.out
           ·have hy := Lib.hid (HF.out.trans (if_neg (fun h => hpr h.2)))
            go_wp2_with fail
            refine bodyPost_ret (v := .tuple #[.agg #[.int .i64 0, .int .i64 0, .slice none 0 0, .string ⟨#[]⟩], .bool false]) (results_cell_tmp Tryz.results88 rfl rfl (tVar (set4_block (HS.out.el _).1))) rfl ?_
            exact read_no hy.out (set4_below (HS.out.el _).2 (Nat.le_refl _))
        ·have ho := out (by rw [empty_of hqe]; rfl)
         clear out
         go_wp2_with fail
         refine (number_some_ref q _).mono ?_
         rintro e w2 ⟨n2, ix2, ok2, rfl, hn2, rfl⟩
         have HN2 := Lib.hid hn2
         clear hn2
         obtain ⟨t0, t1, t2, t3, tf⟩ := cells4 HS.out.t
         obtain ⟨r0, r1, r2, r3, rf⟩ := cells4 HS.out.res
         have hfin : readR s.data.toList = if (numberR q.data.toList).2.2 = true ∧ prodL es ≤ 4096 then some (3, 0, es, q.data.toList) else none := HRD.out _ ho.out
         rw [HN2.out] at hfin
         have HF := Lib.hid hfin
         clear hfin
         cases ok2
         ·go_wp2_with fail
          refine bodyPost_ret (v := .tuple #[.agg #[.int .i64 0, .int .i64 0, .slice none 0 0, .string ⟨#[]⟩], .bool false]) (results_cell_tmp Tryz.results88 rfl rfl (tVar (set4_block (HS.out.el _).1))) rfl ?_
          exact read_no (HF.out.trans (if_neg (fun h => Bool.false_ne_true h.1))) (set4_below (HS.out.el _).2 (Nat.le_refl _))
         ·by_cases hpr : prodL es ≤ 4096
          ·have hy := Lib.hid (HF.out.trans (if_pos ⟨rfl, hpr⟩))
           go_wp2_with fail
           refine bodyPost_ret (v := .tuple #[.agg #[.int .i64 3, .int .i64 0, .slice ao es.length cp, .string q], .bool true]) (results_cell_tmp Tryz.results88 rfl rfl (tVar (set4_block (HS.out.el _).1))) rfl ?_
           exact HS.out.yes hy.out
          ·have hy := Lib.hid (HF.out.trans (if_neg (fun h => hpr h.2)))
           go_wp2_with fail
           refine bodyPost_ret (v := .tuple #[.agg #[.int .i64 0, .int .i64 0, .slice none 0 0, .string ⟨#[]⟩], .bool false]) (results_cell_tmp Tryz.results88 rfl rfl (tVar (set4_block (HS.out.el _).1))) rfl ?_
           exact read_no hy.out (set4_below (HS.out.el _).2 (Nat.le_refl _))
      ·have hr := Lib.hid (HBAD.out hg)
       go_wp2_with fail
       refine bodyPost_ret (v := .tuple #[.agg #[.int .i64 0, .int .i64 0, .slice none 0 0, .string ⟨#[]⟩], .bool false]) (results_cell_tmp Tryz.results88 rfl rfl (tVar HZ.out)) rfl ?_
       exact read_no hr.out HB.out
    ·have ha : ((s.extract 0 4).toList == [97, 114, 114, 60]) = false := by rw [beq_iff_eq] at hm; rw [hm]; rfl
     cases hg : (((s[s.size - 1]'hlast).toNat : Int) != 62)
     ·have hkk : (if s.data.toList.take 4 = arrW then (3 : Int) else 2) = 2 := by rw [← front_extract, eq_of_beq_toList hm]; rfl
      have hrd : ∀ z, extsR 3 (s.extract 4 (s.size - 1)).data.toList [] = z → readR s.data.toList = match z with
        | none => none
        | some (es, l2) => if (numberR l2).2.2 = true ∧ prodL es ≤ 4096 then some (2, 0, es, l2) else none := by
       intro z hz
       rw [HR.out, if_neg, ← mid_extract s (by omega), hz, hkk]
       rintro (⟨h1, h2⟩ | h)
       ·exact h1 (by rw [← front_extract]; exact eq_of_beq_toList hm)
       ·exact h (HG.out.1 hg)
      have HRD := Lib.hid hrd
      have hq63 : (s.extract 4 (s.size - 1)).size ≤ 9223372036854775807 := by rw [ByteArray.size_extract]; omega
      have hst : Hid (RSt w 2 (s.extract 4 (s.size - 1)).data.toList [] (s.extract 4 (s.size - 1)) none 0 _) := RSt.start hq63
      obtain ⟨l0, hl0⟩ : ∃ l0, l0 = (s.extract 4 (s.size - 1)).data.toList := ⟨_, rfl⟩
      rw [← hl0] at hst HRD
      clear hl0 hrd hkk
      go_wp2_with fail
      go_loopw [8, 9] (fun q c wr => ∃ (q' : ByteArray) (es : List Int) (ao : Option Addr) (cp : Nat), q = .string q' ∧ c = .int .i64 (prodL es) ∧ Hid (RSt w 2 l0 es q' ao cp wr)) (fun q _ _ => strLen q)
      case atStart => exact ⟨_, [], none, 0, rfl, rfl, hst⟩
      case round =>
       clear hst
       obtain ⟨q, es, ao, cp, rfl, rfl, HS⟩ := hrel
       have out : headDigit q.data.toList = false → Hid (extsR 3 l0 [] = some (es, q.data.toList)) := fun h => Lib.hid (HS.out.stop h)
       have hqs := HS.out.short
       cases hqe : q.toList.isEmpty
       ·have hq0 : 0 < q.size := by rw [size_eq]; exact List.length_pos_iff.2 (nonempty_of hqe)
        have hqb := (q[0]'hq0).toNat_lt
        have hhd := headDigit_at hq0
        by_cases hlo : 48 ≤ (q[0]'hq0).toNat
        ·by_cases hhi : (q[0]'hq0).toNat ≤ 57
         ·have hdig : Hid (headDigit q.data.toList = true) := Lib.hid (hhd.trans ((digit_iff _).2 ⟨hlo, hhi⟩))
          clear out hhd
          go_wp2_with fail
          go_loopw [10] (fun i w2 => ∃ m : Nat, m ≤ q.size ∧ i = .int .i64 m ∧ Hid ((q.data.toList.take m).all notX = true) ∧ w2 = wr) (fun i _ => q.size - (intOf i).toNat)
          case atStart => exact ⟨0, Nat.zero_le _, rfl, rfl, rfl⟩
          case round =>
           obtain ⟨m, hms, rfl, hall, rfl⟩ := hrel
           by_cases hlt : m < q.size
           ·have hbm := (q[m]'hlt).toNat_lt
            cases hx : (((q[m]'hlt).toNat : Int) != 120)
            ·have hst := Lib.hid (x_stop hall.out hlt (show notX (q[m]'hlt) = false by unfold notX bIs; simpa using hx))
             go_wp2_with fail
             refine (Num_1000 _ _).mono ?_
             rintro e w2 ⟨n2, ok2, rfl, hn2, rfl⟩
             rw [front_extract, ← hst.out.1] at hn2
             have HN2 := Lib.hid hn2
             clear hn2
             obtain ⟨t0, t1, t2, t3, tf⟩ := cells4 HS.out.t
             obtain ⟨r0, r1, r2, r3, rf⟩ := cells4 HS.out.res
             have hmne : ((m : Int) == (q.size : Int)) = false := by rw [beq_eq_false_iff_ne]; omega
             cases ok2
             ·have hy := Lib.hid (HRD.out _ (HS.out.bad hdig.out (.inl (by rw [HN2.out]))))
              go_wp2_with fail
              refine bodyPost_ret (v := .tuple #[.agg #[.int .i64 0, .int .i64 0, .slice none 0 0, .string ⟨#[]⟩], .bool false]) (results_cell_tmp Tryz.results88 rfl rfl (HS.out.fail hy.out).1) rfl ?_
              exact (HS.out.fail hy.out).2
             ·cases h3 : ((es.length : Int) == 3)
              ·have h3n : ¬ es.length = 3 := by rw [beq_eq_false_iff_ne] at h3; omega
               have hmul := mul_ok HS.out h3n HN2.out
               go_wp2_with (at_builtin; refine wp_append_int rfl _ _ rfl HS.out.own HS.out.size HS.out.n3 rfl rfl ?_; intro ao' c' w3 hown hbel; have HOWN := Lib.hid hown; have HBEL := Lib.hid hbel; have ycells := cells4 ((hbel.block (w.heap.size + 1) (by omega)).trans HS.out.t); have y2 := ycells.2.2.1; have yf := ycells.2.2.2.2; clear hown hbel ycells)
               go_roundw
               case rel => exact ⟨_, es ++ [(n2 : Int)], ao', c', rfl, by rw [prodL_snoc, hmul], HS.out.next hdig.out HN2.out hst.out.2 (back_extract q (m + 1)) h3n HOWN.out HBEL.out⟩
               case measure => simp only [strLen, ByteArray.size_extract]; omega
              ·have hy := Lib.hid (HRD.out _ (HS.out.bad hdig.out (.inr (.inr (by rw [beq_iff_eq] at h3; omega)))))
               go_wp2_with fail
               refine bodyPost_ret (v := .tuple #[.agg #[.int .i64 0, .int .i64 0, .slice none 0 0, .string ⟨#[]⟩], .bool false]) (results_cell_tmp Tryz.results88 rfl rfl (HS.out.fail hy.out).1) rfl ?_
               exact (HS.out.fail hy.out).2
            ·have hnx := Lib.hid (show notX (q[m]'hlt) = true by unfold notX bIs; simpa using hx)
             go_wp2_with fail
             go_roundw
             case rel => exact ⟨m + 1, by omega, by go_num, x_step hall.out hlt hnx.out, trivial⟩
             case measure => simp [intOf]; omega
           ·obtain rfl : m = q.size := by omega
            have hy := Lib.hid (HRD.out _ (HS.out.bad hdig.out (.inr (.inl (tw_all (by have := hall.out; rwa [List.take_of_length_le (by simp)] at this)).2))))
            obtain ⟨t0, t1, t2, t3, tf⟩ := cells4 HS.out.t
            obtain ⟨r0, r1, r2, r3, rf⟩ := cells4 HS.out.res
            go_wp2_with fail
            refine (Num_1000 _ _).mono ?_
            rintro e w2 ⟨n2, ok2, rfl, hn2, rfl⟩
            clear hn2
            cases ok2
            ·go_wp2_with fail
             refine bodyPost_ret (v := .tuple #[.agg #[.int .i64 0, .int .i64 0, .slice none 0 0, .string ⟨#[]⟩], .bool false]) (results_cell_tmp Tryz.results88 rfl rfl (HS.out.fail hy.out).1) rfl ?_
             exact (HS.out.fail hy.out).2
            ·go_wp2_with fail
             refine bodyPost_ret (v := .tuple #[.agg #[.int .i64 0, .int .i64 0, .slice none 0 0, .string ⟨#[]⟩], .bool false]) (results_cell_tmp Tryz.results88 rfl rfl (HS.out.fail hy.out).1) rfl ?_
             exact (HS.out.fail hy.out).2
         ·have ho := out (by rw [hhd]; simp only [Bool.eq_false_iff]; exact fun h => hhi ((digit_iff _).1 h).2)
          clear out hhd
          go_wp2_with fail
          refine (number_some_ref q _).mono ?_
          rintro e w2 ⟨n2, ix2, ok2, rfl, hn2, rfl⟩
          have HN2 := Lib.hid hn2
          clear hn2
          obtain ⟨t0, t1, t2, t3, tf⟩ := cells4 HS.out.t
          obtain ⟨r0, r1, r2, r3, rf⟩ := cells4 HS.out.res
          have hfin : readR s.data.toList = if (numberR q.data.toList).2.2 = true ∧ prodL es ≤ 4096 then some (2, 0, es, q.data.toList) else none := HRD.out _ ho.out
          rw [HN2.out] at hfin
          have HF := Lib.hid hfin
          clear hfin
          cases ok2
          ·go_wp2_with fail
           refine bodyPost_ret (v := .tuple #[.agg #[.int .i64 0, .int .i64 0, .slice none 0 0, .string ⟨#[]⟩], .bool false]) (results_cell_tmp Tryz.results88 rfl rfl (tVar (set4_block (HS.out.el _).1))) rfl ?_
           exact read_no (HF.out.trans (if_neg (fun h => Bool.false_ne_true h.1))) (set4_below (HS.out.el _).2 (Nat.le_refl _))
          ·by_cases hpr : prodL es ≤ 4096
           ·have hy := Lib.hid (HF.out.trans (if_pos ⟨rfl, hpr⟩))
            go_wp2_with fail
            refine bodyPost_ret (v := .tuple #[.agg #[.int .i64 2, .int .i64 0, .slice ao es.length cp, .string q], .bool true]) (results_cell_tmp Tryz.results88 rfl rfl (tVar (set4_block (HS.out.el _).1))) rfl ?_
            exact HS.out.yes hy.out
           ·have hy := Lib.hid (HF.out.trans (if_neg (fun h => hpr h.2)))
            go_wp2_with fail
            refine bodyPost_ret (v := .tuple #[.agg #[.int .i64 0, .int .i64 0, .slice none 0 0, .string ⟨#[]⟩], .bool false]) (results_cell_tmp Tryz.results88 rfl rfl (tVar (set4_block (HS.out.el _).1))) rfl ?_
            exact read_no hy.out (set4_below (HS.out.el _).2 (Nat.le_refl _))
        ·have ho := out (by rw [hhd]; simp only [Bool.eq_false_iff]; exact fun h => hlo ((digit_iff _).1 h).1)
         clear out hhd
         go_wp2_with fail
         refine (number_some_ref q _).mono ?_
         rintro e w2 ⟨n2, ix2, ok2, rfl, hn2, rfl⟩
         have HN2 := Lib.hid hn2
         clear hn2
         obtain ⟨t0, t1, t2, t3, tf⟩ := cells4 HS.out.t
         obtain ⟨r0, r1, r2, r3, rf⟩ := cells4 HS.out.res
         have hfin : readR s.data.toList = if (numberR q.data.toList).2.2 = true ∧ prodL es ≤ 4096 then some (2, 0, es, q.data.toList) else none := HRD.out _ ho.out
         rw [HN2.out] at hfin
         have HF := Lib.hid hfin
         clear hfin
         cases ok2
         ·go_wp2_with fail
          refine bodyPost_ret (v := .tuple #[.agg #[.int .i64 0, .int .i64 0, .slice none 0 0, .string ⟨#[]⟩], .bool false]) (results_cell_tmp Tryz.results88 rfl rfl (tVar (set4_block (HS.out.el _).1))) rfl ?_
          exact read_no (HF.out.trans (if_neg (fun h => Bool.false_ne_true h.1))) (set4_below (HS.out.el _).2 (Nat.le_refl _))
         ·by_cases hpr : prodL es ≤ 4096
          ·have hy := Lib.hid (HF.out.trans (if_pos ⟨rfl, hpr⟩))
           go_wp2_with fail
           refine bodyPost_ret (v := .tuple #[.agg #[.int .i64 2, .int .i64 0, .slice ao es.length cp, .string q], .bool true]) (results_cell_tmp Tryz.results88 rfl rfl (tVar (set4_block (HS.out.el _).1))) rfl ?_
           exact HS.out.yes hy.out
          ·have hy := Lib.hid (HF.out.trans (if_neg (fun h => hpr h.2)))
           go_wp2_with fail
           refine bodyPost_ret (v := .tuple #[.agg #[.int .i64 0, .int .i64 0, .slice none 0 0, .string ⟨#[]⟩], .bool false]) (results_cell_tmp Tryz.results88 rfl rfl (tVar (set4_block (HS.out.el _).1))) rfl ?_
           exact read_no hy.out (set4_below (HS.out.el _).2 (Nat.le_refl _))
       ·have ho := out (by rw [empty_of hqe]; rfl)
        clear out
        go_wp2_with fail
        refine (number_some_ref q _).mono ?_
        rintro e w2 ⟨n2, ix2, ok2, rfl, hn2, rfl⟩
        have HN2 := Lib.hid hn2
        clear hn2
        obtain ⟨t0, t1, t2, t3, tf⟩ := cells4 HS.out.t
        obtain ⟨r0, r1, r2, r3, rf⟩ := cells4 HS.out.res
        have hfin : readR s.data.toList = if (numberR q.data.toList).2.2 = true ∧ prodL es ≤ 4096 then some (2, 0, es, q.data.toList) else none := HRD.out _ ho.out
        rw [HN2.out] at hfin
        have HF := Lib.hid hfin
        clear hfin
        cases ok2
        ·go_wp2_with fail
         refine bodyPost_ret (v := .tuple #[.agg #[.int .i64 0, .int .i64 0, .slice none 0 0, .string ⟨#[]⟩], .bool false]) (results_cell_tmp Tryz.results88 rfl rfl (tVar (set4_block (HS.out.el _).1))) rfl ?_
         exact read_no (HF.out.trans (if_neg (fun h => Bool.false_ne_true h.1))) (set4_below (HS.out.el _).2 (Nat.le_refl _))
        ·by_cases hpr : prodL es ≤ 4096
         ·have hy := Lib.hid (HF.out.trans (if_pos ⟨rfl, hpr⟩))
          go_wp2_with fail
          refine bodyPost_ret (v := .tuple #[.agg #[.int .i64 2, .int .i64 0, .slice ao es.length cp, .string q], .bool true]) (results_cell_tmp Tryz.results88 rfl rfl (tVar (set4_block (HS.out.el _).1))) rfl ?_
          exact HS.out.yes hy.out
         ·have hy := Lib.hid (HF.out.trans (if_neg (fun h => hpr h.2)))
          go_wp2_with fail
          refine bodyPost_ret (v := .tuple #[.agg #[.int .i64 0, .int .i64 0, .slice none 0 0, .string ⟨#[]⟩], .bool false]) (results_cell_tmp Tryz.results88 rfl rfl (tVar (set4_block (HS.out.el _).1))) rfl ?_
          exact read_no hy.out (set4_below (HS.out.el _).2 (Nat.le_refl _))
     ·have hr := Lib.hid (HBAD.out hg)
      go_wp2_with fail
      refine bodyPost_ret (v := .tuple #[.agg #[.int .i64 0, .int .i64 0, .slice none 0 0, .string ⟨#[]⟩], .bool false]) (results_cell_tmp Tryz.results88 rfl rfl (tVar HZ.out)) rfl ?_
      exact read_no hr.out HB.out
 ·cases ix
  ·have hr : Hid (readR s.data.toList = some (0, (n : Int), [], [])) := by
    unfold readR
    rw [HN.out]
    rfl
   go_wp2_with fail
   refine bodyPost_ret (v := .tuple #[.agg #[.int .i64 0, .int .i64 n, .slice none 0 0, .string ⟨#[]⟩], .bool true]) (results_cell_tmp Tryz.results88 rfl rfl (tVar (heap_alloc_new w _))) rfl ?_
   exact read_flat hr.out ((Below.refl w.heap.size w).alloc (Nat.le_refl _) _)
  ·have hr : Hid (readR s.data.toList = some (1, 64, [], [])) := by
    have h64 : n = 64 := number_index HN.out
    subst h64
    unfold readR
    rw [HN.out]
    rfl
   go_wp2_with fail
   refine bodyPost_ret (v := .tuple #[.agg #[.int .i64 1, .int .i64 64, .slice none 0 0, .string ⟨#[]⟩], .bool true]) (results_cell_tmp Tryz.results88 rfl rfl (tVar (heap_alloc_new w _))) rfl ?_
   exact read_flat hr.out ((Below.refl w.heap.size w).alloc (Nat.le_refl _) _)
theorem Read_some (s : ByteArray) (hs : s.size ≤ 9223372036854775807) (w : World) : Calls Tryz.prog 88 #[.string s] w fun e w' => Below w.heap.size w w' ∧ ((readR s.data.toList = none ∧ ∃ T : Int, e = .returned (.tuple #[.agg #[.int .i64 T, .int .i64 0, .slice none 0 0, .string ⟨#[]⟩], .bool false])) ∨
  ∃ (k b : Int) (es : List Int) (el : ByteArray) (ao : Option Addr) (c : Nat), readR s.data.toList = some (k, b, es, el.data.toList) ∧ IntsAt w' ao es ∧
   e = .returned (.tuple #[.agg #[.int .i64 k, .int .i64 b, .slice ao es.length c, .string el], .bool true])) := Read_ref s hs w
set_option maxHeartbeats 400000 in
theorem Is_ref (s : ByteArray) (hs : s.size ≤ 9223372036854775807) (w : World) :
  Calls Tryz.prog 53 #[.string s] w fun e w' => e = .returned (.bool (readR s.data.toList).isSome) ∧ Below w.heap.size w w' := by
 go_enter Tryz.func53, Tryz.ntmps53
 go_wp2_with fail
 refine (Read_some s hs _).mono ?_
 rintro e w1 ⟨hb, ⟨hn, T, rfl⟩ | ⟨k, b, es, el, ao, c, hn, _, rfl⟩⟩
 ·have HB := Lib.hid hb
  have HN := Lib.hid hn
  clear hb hn
  go_wp2_with fail
  go_ret
  exact ⟨by rw [HN.out]; rfl, HB.out.alloc HB.out.size _⟩
 ·have HB := Lib.hid hb
  have HN := Lib.hid hn
  clear hb hn
  go_wp2_with fail
  go_ret
  exact ⟨by rw [HN.out]; rfl, HB.out.alloc HB.out.size _⟩
end Go.Proofs.YtgimdkgjfenafaaGreatDoor
namespace Go.Proofs.YtgimdkgjfenafaaGreatDoor
open Go.RowKit
def notComma (b : UInt8) : Bool := !(bIs 44 b)
def isTyR (l : List UInt8) : Bool := (readR l).isSome
/-! ### A type has no comma -/
/-! ### The reference's way -/
def splitL : Nat → List UInt8 → Option (List (List UInt8))
 | 0, _ => none
 | n + 1, l => if isTyR (l.takeWhile notComma) = false then none
  else if l.dropWhile notComma = [] then some [l.takeWhile notComma]
  else if (l.dropWhile notComma).tail.head? = some 32 then (splitL n (l.dropWhile notComma).tail.tail).map (l.takeWhile notComma :: ·)
  else none
/-! ### The program's parts -/
end Go.Proofs.YtgimdkgjfenafaaGreatDoor
namespace Go.Proofs.YtgimdkgjfenafaaGreatDoor
open Go.RowKit
end Go.Proofs.YtgimdkgjfenafaaGreatDoor
namespace Go.Proofs.YtgimdkgjfenafaaGreatDoor
open Go.RowKit
theorem own_strs {w : World} {B n : Nat} {ao : Option Addr} {c : Nat} {ps : List ByteArray} (h : w.ownsRow B 9 1 (.slice ao n c) n (ps.map .string)) (hn : n = ps.length) : StrsAt w ao ps := by
 rcases h.2 with ⟨_, h0⟩ | ⟨g, c', cur, hv, _, hg, _, _, _, hcur⟩
 ·rw [h0] at hn
  exact .inl (List.eq_nil_of_length_eq_zero hn.symm)
 ·cases hv
  refine .inr ⟨_, rfl, fun j hj => ?_⟩
  have h1 : (cur.toList.take (n * 1))[j]? = some (.string (ps[j]?.getD ByteArray.empty)) := by
   rw [hcur, List.getElem?_map, List.getElem?_eq_getElem hj]; rfl
  rw [List.getElem?_take_of_lt (by omega)] at h1
  rw [Addr.add_lit, cell_of_row _ _ _ _ _ _ hg]
  simpa using h1
structure SSt (w : World) (l0 : List UInt8) (ps : List ByteArray) (q : ByteArray) (ao : Option Addr) (c : Nat) (wr : World) : Prop where
 own : wr.ownsRow w.heap.size 9 1 (.slice ao ps.length c) ps.length (ps.map .string)
 bel : Below w.heap.size w wr
 way : ∃ n, q.size < n ∧ splitL (l0.length + 1) l0 = (splitL n q.data.toList).map (ps.map (·.data.toList) ++ ·)
 few : ps.length + q.size ≤ 1048576
 more : 0 < q.size ∨ 0 < ps.length
section
variable {w : World} {l0 : List UInt8} {ps : List ByteArray} {q : ByteArray} {ao : Option Addr} {c : Nat} {wr : World}
theorem SSt.start (hq : q.size ≤ 1048576) (h0 : 0 < q.size) : SSt w q.data.toList [] q none 0 w :=
 ⟨⟨rfl, .inl ⟨rfl, rfl⟩⟩, Below.refl _ _, ⟨q.data.toList.length + 1, by simp, by simp⟩, by simpa using hq, .inl h0⟩
theorem SSt.next (h : SSt w l0 ps q ao c wr) {m : Nat} (hm : m + 1 < q.size) (hst : q.data.toList.takeWhile notComma = q.data.toList.take m ∧ q.data.toList.dropWhile notComma = q[m]'(by omega) :: q.data.toList.drop (m + 1))
  (ht : isTyR (q.data.toList.take m) = true) (h32 : q[m + 1]'hm = 32) {ao' : Option Addr} {c' : Nat} {w2 : World}
  (hown : w2.ownsRow w.heap.size 9 1 (.slice ao' (ps ++ [q.extract 0 m]).length c') (ps ++ [q.extract 0 m]).length ((ps ++ [q.extract 0 m]).map .string)) (hb : Below w.heap.size wr w2) :
  SSt w l0 (ps ++ [q.extract 0 m]) (q.extract (m + 2) q.size) ao' c' w2 := by
 have hl : m + 1 < q.data.toList.length := by simpa using hm
 have hd : q.data.toList.drop (m + 1) = 32 :: q.data.toList.drop (m + 2) := by
  rw [List.drop_eq_getElem_cons hl]
  exact congrArg (· :: _) h32
 refine ⟨hown, h.bel.trans hb, ?_, ?_, .inr (by simp)⟩
 ·obtain ⟨n, hn, e⟩ := h.way
  obtain ⟨k, rfl⟩ : ∃ k, n = k + 1 := ⟨n - 1, by omega⟩
  refine ⟨k, by rw [ByteArray.size_extract]; omega, ?_⟩
  rw [e, splitL, hst.1, hst.2, if_neg (by rw [ht]; decide), if_neg (by simp), List.tail_cons, hd, List.head?_cons, if_pos rfl, List.tail_cons, back_extract, List.map_append, List.map_singleton, front_extract]
  cases splitL k (q.data.toList.drop (m + 2)) with
  | none => rfl
  | some z => simp
 ·have := h.few
  rw [ByteArray.size_extract, List.length_append, List.length_singleton]
  omega
end
theorem SSt.empty {w : World} {l0 : List UInt8} {ps : List ByteArray} {q : ByteArray} {ao : Option Addr} {c : Nat} {wr : World} (h : SSt w l0 ps q ao c wr) : q.toList.isEmpty = false ∨ (q.toList.isEmpty = true ∧ 0 < ps.length) := by
 cases hq : q.toList.isEmpty
 ·exact .inl rfl
 ·refine .inr ⟨rfl, h.more.resolve_left fun h0 => ?_⟩
  have he := empty_of hq
  rw [size_eq, he] at h0
  exact absurd h0 (Nat.lt_irrefl _)
end Go.Proofs.YtgimdkgjfenafaaGreatDoor
namespace Go.Proofs.YtgimdkgjfenafaaGreatDoor
open Go.RowKit
def wordsGo (cur : List UInt8) : List UInt8 → List ByteArray
 | [] => if cur = [] then [] else [⟨cur.toArray⟩]
 | c :: r => if c = 44 then (if cur = [] then [] else [⟨cur.toArray⟩]) ++ wordsGo [] r else wordsGo (cur ++ [c]) r
def wordsL (s : ByteArray) : List ByteArray := wordsGo [] s.data.toList
theorem info_string : InfoIs 9 1 := infoIs (by kernel_rfl)
theorem own_above {w : World} {B : Nat} {E : TypeId} {sz : Nat} {v : Value} {n : Nat} {xs : List Value} (h : w.ownsRow B E sz v n xs) : (above B w).ownsRow B E sz v n xs := by
 refine ⟨h.1, ?_⟩
 rcases h.2 with h | ⟨g, cap, cur, hv, hb, hg, hr⟩
 ·exact .inl h
 ·refine .inr ⟨g, cap, cur, hv, hb, ?_, hr⟩
  unfold above mask
  simp only [Array.getElem?_mapIdx, hg, Option.map_some]
  rw [if_pos (decide_eq_true hb)]
structure WdS (w : World) (s : ByteArray) (f m : Nat) (ao : Option Addr) (c : Nat) (ps : List ByteArray) (W : World) : Prop where
 own : W.ownsRow w.heap.size 9 1 (.slice ao ps.length c) ps.length (ps.map .string)
 below : Below w.heap.size w W
 few : ps.length ≤ m
 low : f ≤ m
 going : m ≤ s.size → wordsL s = ps ++ wordsGo ((s.data.toList.drop f).take (m - f)) (s.data.toList.drop m)
 ended : s.size < m → wordsL s = ps
theorem WdS.start (w : World) (s : ByteArray) : WdS w s 0 0 none 0 [] w := ⟨World.ownsRow_nil _ _ _ _, Below.refl _ _, Nat.le_refl _, Nat.le_refl _, fun _ => by simp [wordsL], fun h => absurd h (Nat.not_lt_zero _)⟩
theorem WdS.word {w W W' : World} {s : ByteArray} {f m : Nat} {ao ao' : Option Addr} {c c' : Nat} {ps : List ByteArray} (h : WdS w s f m ao c ps W) (hm : m ≤ s.size) (hf : f < m) (hs : m = s.size ∨ s.data.toList[m]? = some 44)
  (hown : W'.ownsRow w.heap.size 9 1 (.slice ao' (ps.length + 1) c') (ps.length + 1) (ps.map .string ++ [.string (s.extract f m)])) (hb : Below w.heap.size W W') : WdS w s (m + 1) (m + 1) ao' c' (ps ++ [s.extract f m]) W' := by
 have hx : (s.data.toList.drop f).take (m - f) ≠ [] := by
  intro e
  have := congrArg List.length e
  rw [List.length_take, List.length_drop, ← size_eq, List.length_nil] at this
  omega
 have hsl : (⟨((s.data.toList.drop f).take (m - f)).toArray⟩ : ByteArray) = s.extract f m := by
  apply ByteArray.ext
  apply Array.ext'
  rw [extract_toList, List.drop_take]
 have hg := h.going hm
 refine ⟨by rw [List.map_append, List.length_append]; exact hown, h.below.trans (hb), by rw [List.length_append, List.length_singleton]; have := h.few; omega, Nat.le_refl _, fun hm1 => ?_, fun hm1 => ?_⟩
 ·rcases hs with hs | hs
  ·omega
  ·obtain ⟨hl, hv⟩ := List.getElem?_eq_some_iff.1 hs
   rw [hg, List.drop_eq_getElem_cons hl, hv, wordsGo, if_pos rfl, if_neg hx, hsl, Nat.sub_self, List.take_zero, List.append_assoc]
 ·have : m = s.size := by omega
  rw [hg, List.drop_eq_nil_of_le (show s.data.toList.length ≤ m by rw [← size_eq]; omega), wordsGo, if_neg hx, hsl]
theorem WdS.none {w W : World} {s : ByteArray} {f m : Nat} {ao : Option Addr} {c : Nat} {ps : List ByteArray} (h : WdS w s f m ao c ps W) (hm : m ≤ s.size) (hf : ¬ f < m) (hs : m = s.size ∨ s.data.toList[m]? = some 44) : WdS w s (m + 1) (m + 1) ao c ps W := by
 have hx : (s.data.toList.drop f).take (m - f) = [] := by rw [show m - f = 0 by omega, List.take_zero]
 have hg := h.going hm
 rw [hx] at hg
 refine ⟨h.own, h.below, by have := h.few; omega, Nat.le_refl _, fun hm1 => ?_, fun hm1 => ?_⟩
 ·rcases hs with hs | hs
  ·omega
  ·obtain ⟨hl, hv⟩ := List.getElem?_eq_some_iff.1 hs
   rw [hg, List.drop_eq_getElem_cons hl, hv, wordsGo, if_pos rfl, if_pos rfl, Nat.sub_self, List.take_zero, List.nil_append]
 ·have : m = s.size := by omega
  rw [hg, List.drop_eq_nil_of_le (show s.data.toList.length ≤ m by rw [← size_eq]; omega), wordsGo, if_pos rfl, List.append_nil]
theorem WdS.more {w W : World} {s : ByteArray} {f m : Nat} {ao : Option Addr} {c : Nat} {ps : List ByteArray} (h : WdS w s f m ao c ps W) (hm : m < s.size) {x : UInt8} (hs : s.data.toList[m]? = some x) (hx : x ≠ 44) : WdS w s f (m + 1) ao c ps W := by
 have hg := h.going (Nat.le_of_lt hm)
 refine ⟨h.own, h.below, by have := h.few; omega, by have := h.low; omega, fun hm1 => ?_, fun hm1 => by omega⟩
 obtain ⟨hl, hv⟩ := List.getElem?_eq_some_iff.1 hs
 rw [hg, List.drop_eq_getElem_cons hl, hv, wordsGo, if_neg hx]
 have : (s.data.toList.drop f).take (m + 1 - f) = (s.data.toList.drop f).take (m - f) ++ [x] := by
  rw [show m + 1 - f = (m - f) + 1 by have := h.low; omega, List.take_add_one, List.getElem?_drop, show f + (m - f) = m by have := h.low; omega, hs]
  rfl
 rw [this]
theorem get_at' {s : ByteArray} {m : Nat} (h : m < s.size) : s.data.toList[m]? = some (s[m]'h) := by rw [List.getElem?_eq_getElem (by rw [← size_eq]; exact h)]; rfl
theorem ix_at' {s : ByteArray} {m : Nat} {z : Int} (hz : z = (m : Int)) (h : m < s.size) (w : World) : (Instr.index 9 (.string s) (.int .i64 z)).run Tryz.prog w = .ok (.int .u8 ((s[m]'h).toNat : Int)) w := by
 subst hz
 rw [run_index_string w _ _ _ _ Tryz.underlying9]
 have h1 : (m : Int) < (s.size : Int) := by omega
 simp [h1]
set_option maxHeartbeats 4000000 in
set_option maxRecDepth 100000 in
theorem words_any (s : ByteArray) (hs : s.size ≤ 1000000) (w : World) : Calls Tryz.prog 127 #[.string s] w (StrsPost (wordsL s) w) := by
 have HSZ := Lib.hid hs
 have hszi : (s.size : Int) ≤ 1000000 := by omega
 clear hs
 go_enter Tryz.func127, Tryz.ntmps127
 go_wp2_with fail
 go_loopw [3, 4, 5] (fun ov fv iv wr => ∃ (f m : Nat) (ao : Option Addr) (cp : Nat) (ps : List ByteArray), f ≤ m ∧ m ≤ s.size + 1 ∧ ov = .slice ao ps.length cp ∧ fv = .int .i64 f ∧ iv = .int .i64 m ∧ Hid (WdS w s f m ao cp ps wr)) (fun _ _ iv _ => s.size + 1 - (intOf iv).toNat)
 case atStart => exact ⟨0, 0, none, 0, [], Nat.le_refl _, Nat.zero_le _, rfl, rfl, rfl, WdS.start w s⟩
 case round =>
  obtain ⟨f, m, ao, cp, ps, hfm, hms, rfl, rfl, rfl, HW⟩ := hrel
  by_cases hle : m ≤ s.size
  rotate_left
  ·have hx : ¬ (m : Int) ≤ (s.size : Int) := by omega
   have HE := Lib.hid (HW.out.ended (by omega))
   clear hle hfm hms
   go_wp2_with fail
   go_ret
   refine ⟨ao, cp, ?_, ?_, ?_, HW.out.below⟩
   ·rw [HE.out]; rfl
   ·rw [HE.out]; exact own_strs (own_above HW.out.own) rfl
   ·rw [HE.out]; exact (row_own HW.out.own).2
  have hlei : (m : Int) ≤ (s.size : Int) := by omega
  have HOWN := Lib.hid HW.out.own
  have HB := Lib.hid HW.out.below.size
  have HN := Lib.hid (show ps.length ≤ 2000000 by have := HW.out.few; have := HSZ.out; omega)
  have HM := Lib.hid hle
  have HF := Lib.hid hfm
  have hfmi : (f : Int) ≤ (m : Int) := by omega
  by_cases hlt : m < s.size
  rotate_left
  ·have hme : (m : Int) = (s.size : Int) := by omega
   have hmb : ((m : Int) == (s.size : Int)) = true := beq_iff_eq.2 hme
   have HSP := Lib.hid (show m = s.size by omega)
   clear hme hlt
   by_cases hfl : f < m
   ·have hfi : (f : Int) < (m : Int) := by omega
    have HFL := Lib.hid hfl
    clear hfl hfm hms hle
    go_wp2_with (at_builtin; refine wp_append_own rfl 27 9 1 Tryz.underlying27 info_string (by decide) _ _ rfl HOWN.out HB.out HN.out rfl rfl rfl rfl ?_; intro ao5 c5 w5 hown hbel _; have HO5 := Lib.hid hown; have HB5 := Lib.hid hbel; clear hown hbel)
    go_roundw
    case rel => exact ⟨m + 1, m + 1, ao5, c5, ps ++ [s.extract f m], Nat.le_refl _, by have := HM.out; omega, by rw [List.length_append, List.length_singleton], by go_num, by go_num, HW.out.word HM.out HFL.out (.inl HSP.out) HO5.out HB5.out⟩
    case measure => have := HM.out; simp only [intOf]; omega
   ·have hfi : ¬ (f : Int) < (m : Int) := by omega
    have HFL := Lib.hid hfl
    clear hfl hfm hms hle
    go_wp2_with fail
    go_roundw
    case rel => exact ⟨m + 1, m + 1, ao, cp, ps, Nat.le_refl _, by have := HM.out; omega, rfl, by go_num, by go_num, HW.out.none HM.out HFL.out (.inl HSP.out)⟩
    case measure => have := HM.out; simp only [intOf]; omega
  have hlti : (m : Int) < (s.size : Int) := by omega
  have hnb : ((m : Int) == (s.size : Int)) = false := beq_eq_false_iff_ne.2 (by omega)
  have hix := fun w => ix_at' (s := s) rfl hlt w
  have hge := get_at' hlt
  have hc := (s[m]'hlt).toNat_lt
  generalize s[m]'hlt = x at hix hge hc
  have HG := Lib.hid hge
  have HLT := Lib.hid hlt
  clear hge hlt
  by_cases h44 : x.toNat = 44
  ·have k44 : (x.toNat : Int) = 44 := by omega
   have k44b : ((x.toNat : Int) == 44) = true := beq_iff_eq.2 k44
   have HSP := Lib.hid (show s.data.toList[m]? = some 44 by rw [HG.out, UInt8.toNat_inj.1 (show x.toNat = (44 : UInt8).toNat from h44)])
   clear h44 k44
   by_cases hfl : f < m
   ·have hfi : (f : Int) < (m : Int) := by omega
    have HFL := Lib.hid hfl
    clear hfl hfm hms hle
    go_wp2_with (at_builtin; refine wp_append_own rfl 27 9 1 Tryz.underlying27 info_string (by decide) _ _ rfl HOWN.out HB.out HN.out rfl rfl rfl rfl ?_; intro ao5 c5 w5 hown hbel _; have HO5 := Lib.hid hown; have HB5 := Lib.hid hbel; clear hown hbel)
    go_roundw
    case rel => exact ⟨m + 1, m + 1, ao5, c5, ps ++ [s.extract f m], Nat.le_refl _, by have := HM.out; omega, by rw [List.length_append, List.length_singleton], by go_num, by go_num, HW.out.word HM.out HFL.out (.inr HSP.out) HO5.out HB5.out⟩
    case measure => have := HM.out; simp only [intOf]; omega
   ·have hfi : ¬ (f : Int) < (m : Int) := by omega
    have HFL := Lib.hid hfl
    clear hfl hfm hms hle
    go_wp2_with fail
    go_roundw
    case rel => exact ⟨m + 1, m + 1, ao, cp, ps, Nat.le_refl _, by have := HM.out; omega, rfl, by go_num, by go_num, HW.out.none HM.out HFL.out (.inr HSP.out)⟩
    case measure => have := HM.out; simp only [intOf]; omega
  ·have k44 : ¬ (x.toNat : Int) = 44 := by omega
   have k44b : ((x.toNat : Int) == 44) = false := beq_eq_false_iff_ne.2 k44
   have HX := Lib.hid (show x ≠ 44 from fun e => h44 (by rw [e]; rfl))
   clear h44 hfm hms hle
   go_wp2_with fail
   go_roundw
   case rel => exact ⟨f, m + 1, ao, cp, ps, by have := HF.out; omega, by have := HM.out; omega, rfl, rfl, by go_num, HW.out.more HLT.out HG.out HX.out⟩
   case measure => have := HM.out; simp only [intOf]; omega
theorem dset7_block {w : World} {b : Nat} {T : TypeId} {v0 v1 v2 v3 v4 v5 v6 u0 u1 u2 u3 u4 u5 u6 : Value} (h : w.heap[b]? = some (.cells #[v0, v1, v2, v3, v4, v5, v6] T (0, 0))) :
  (((((((w.setCell ⟨b, 0, none⟩ u0).setCell ⟨b, 1, none⟩ u1).setCell ⟨b, 2, none⟩ u2).setCell ⟨b, 3, none⟩ u3).setCell ⟨b, 4, none⟩ u4).setCell ⟨b, 5, none⟩ u5).setCell ⟨b, 6, none⟩ u6).heap[b]? = some (.cells #[u0, u1, u2, u3, u4, u5, u6] T (0, 0)) := by
 have h0 := heap_setCell_same _ b 0 _ T u0 h
 have h1 := heap_setCell_same _ b 1 _ T u1 h0
 have h2 := heap_setCell_same _ b 2 _ T u2 h1
 have h3 := heap_setCell_same _ b 3 _ T u3 h2
 have h4 := heap_setCell_same _ b 4 _ T u4 h3
 have h5 := heap_setCell_same _ b 5 _ T u5 h4
 have h6 := heap_setCell_same _ b 6 _ T u6 h5
 rw [h6]
 rfl
theorem dset7_other {w : World} {b k : Nat} {u0 u1 u2 u3 u4 u5 u6 : Value} (h : k ≠ b) : (((((((w.setCell ⟨b, 0, none⟩ u0).setCell ⟨b, 1, none⟩ u1).setCell ⟨b, 2, none⟩ u2).setCell ⟨b, 3, none⟩ u3).setCell ⟨b, 4, none⟩ u4).setCell ⟨b, 5, none⟩ u5).setCell ⟨b, 6, none⟩ u6).heap[k]? = w.heap[k]? := by
 rw [heap_setCell_other _ _ _ _ h, heap_setCell_other _ _ _ _ h, heap_setCell_other _ _ _ _ h, heap_setCell_other _ _ _ _ h, heap_setCell_other _ _ _ _ h, heap_setCell_other _ _ _ _ h, heap_setCell_other _ _ _ _ h]
theorem dbelow_set7 {B : Nat} {w W : World} (h : Below B w W) {b : Nat} (hb : B ≤ b) {u0 u1 u2 u3 u4 u5 u6 : Value} : Below B w (((((((W.setCell ⟨b, 0, none⟩ u0).setCell ⟨b, 1, none⟩ u1).setCell ⟨b, 2, none⟩ u2).setCell ⟨b, 3, none⟩ u3).setCell ⟨b, 4, none⟩ u4).setCell ⟨b, 5, none⟩ u5).setCell ⟨b, 6, none⟩ u6) :=
 ((((((h.setCell (p := ⟨b, 0, none⟩) hb _).setCell (p := ⟨b, 1, none⟩) hb _).setCell (p := ⟨b, 2, none⟩) hb _).setCell (p := ⟨b, 3, none⟩) hb _).setCell (p := ⟨b, 4, none⟩) hb _).setCell (p := ⟨b, 5, none⟩) hb _).setCell (p := ⟨b, 6, none⟩) hb _
theorem dabove_set7 {N b : Nat} {w : World} (hb : b < N) {u0 u1 u2 u3 u4 u5 u6 : Value} : Keeps (above N w) (above b (((((((w.setCell ⟨b, 0, none⟩ u0).setCell ⟨b, 1, none⟩ u1).setCell ⟨b, 2, none⟩ u2).setCell ⟨b, 3, none⟩ u3).setCell ⟨b, 4, none⟩ u4).setCell ⟨b, 5, none⟩ u5).setCell ⟨b, 6, none⟩ u6)) :=
 mask_keeps fun k hp _ => by
  simp only [decide_eq_true_eq] at hp ⊢
  exact ⟨by omega, dset7_other (by omega)⟩
theorem dcells7 {w : World} {b : Nat} {T : TypeId} {v0 v1 v2 v3 v4 v5 v6 : Value} (h : w.heap[b]? = some (.cells #[v0, v1, v2, v3, v4, v5, v6] T (0, 0))) :
  w.cell? ⟨b, 0, none⟩ = some v0 ∧ w.cell? ⟨b, 1, none⟩ = some v1 ∧ w.cell? ⟨b, 2, none⟩ = some v2 ∧ w.cell? ⟨b, 3, none⟩ = some v3 ∧ w.cell? ⟨b, 4, none⟩ = some v4 ∧ w.cell? ⟨b, 5, none⟩ = some v5 ∧ w.cell? ⟨b, 6, none⟩ = some v6 ∧ ∀ j, w.frozen? ⟨b, j, none⟩ = false := by
 refine ⟨?_, ?_, ?_, ?_, ?_, ?_, ?_, fun j => ?_⟩ <;> simp [World.cell?, World.frozen?, h]
theorem rdefVar {w : World} {b : Nat} {v0 v1 v2 v3 v4 v5 v6 : Value} (h : w.heap[b]? = some (.cells #[v0, v1, v2, v3, v4, v5, v6] 41 (0, 0))) :
  (loadVar 41 ⟨b, 0, none⟩).run Tryz.prog w = .ok (.agg #[v0, v1, v2, v3, v4, v5, v6]) w :=
 run_loadVar_row w b _ _ _ _ _ h Tryz.underlying41 rfl (by kernel_rfl)
def DefPost (d : DefD) (w : World) (e : Ending) (w' : World) : Prop := ∃ x : DEl, e = .returned (.agg #[.string x.d.name, .slice x.io x.d.ins.length x.ic, .slice x.oo x.d.outs.length x.oc, .slice x.no x.d.needs.length x.nc, .int .i64 x.d.regions, .int .i64 x.d.succs, .slice x.ko x.d.traits.length x.kc]) ∧ x.d = d ∧ DefOK (above w.heap.size w') x ∧ Below w.heap.size w w'
set_option maxHeartbeats 4000000 in
set_option maxRecDepth 100000 in
theorem def_any (nm i o t : ByteArray) (hi : i.size ≤ 1000000) (ho : o.size ≤ 1000000) (ht : t.size ≤ 1000000) (w : World) : Calls Tryz.prog 74 #[.string nm, .string i, .string o, .string t] w (DefPost ⟨nm, wordsL i, wordsL o, [], 0, 0, wordsL t⟩ w) := by
 have HI := Lib.hid hi
 have HO := Lib.hid ho
 have HT := Lib.hid ht
 clear hi ho ht
 obtain ⟨W1, hW1⟩ : ∃ W1, W1 = w.alloc (.cells #[.string ⟨#[]⟩, .slice none 0 0, .slice none 0 0, .slice none 0 0, .int .i64 0, .int .i64 0, .slice none 0 0] 41) := ⟨_, rfl⟩
 have T1 : Hid (W1.heap[w.heap.size]? = some (.cells #[.string ⟨#[]⟩, .slice none 0 0, .slice none 0 0, .slice none 0 0, .int .i64 0, .int .i64 0, .slice none 0 0] 41 (0, 0))) := by
  show W1.heap[w.heap.size]? = _
  rw [hW1]
  exact heap_alloc_new _ _
 have B1 : Hid (Below w.heap.size w W1 ∧ w.heap.size < W1.heap.size) := by
  show Below _ _ _ ∧ _
  rw [hW1]
  exact ⟨(Below.refl _ w).alloc (Nat.le_refl _) _, by simp⟩
 go_enter Tryz.func74, Tryz.ntmps74
 go_wp2_with fail
 rw [← hW1]
 clear hW1
 refine (words_any i HI.out W1).mono ?_
 rintro e w2 ⟨io, ic, rfl, hi, hic, hb2⟩
 have S2 := Lib.hid hi
 have C2 := Lib.hid hic
 have B2 := Lib.hid hb2
 clear hi hic hb2
 go_wp2_with fail
 refine (words_any o HO.out w2).mono ?_
 rintro e w3 ⟨oo, oc, rfl, hi, hic, hb3⟩
 have S3 := Lib.hid hi
 have C3 := Lib.hid hic
 have B3 := Lib.hid hb3
 clear hi hic hb3
 go_wp2_with fail
 refine (words_any t HT.out w3).mono ?_
 rintro e w4 ⟨ko, kc, rfl, hi, hic, hb4⟩
 have S4 := Lib.hid hi
 have C4 := Lib.hid hic
 have B4 := Lib.hid hb4
 clear hi hic hb4
 have B13 := Lib.hid (B2.out.trans (B3.out.mono B2.out.size))
 have B14 := Lib.hid (B13.out.trans (B4.out.mono B13.out.size))
 have T4 := Lib.hid ((B14.out.block _ (lt_of_block T1.out)).trans T1.out)
 obtain ⟨c0, c1, c2, c3, c4, c5, c6, cf⟩ := dcells7 T4.out
 go_wp2_with fail
 refine bodyPost_ret (v := .agg #[.string nm, .slice io (wordsL i).length ic, .slice oo (wordsL o).length oc, .slice none 0 0, .int .i64 0, .int .i64 0, .slice ko (wordsL t).length kc]) (results_cell Tryz.results74 rfl (rdefVar (dset7_block T4.out))) rfl ?_
 refine ⟨⟨⟨nm, wordsL i, wordsL o, [], 0, 0, wordsL t⟩, io, ic, oo, oc, none, 0, ko, kc⟩, rfl, rfl, ⟨?_, ?_, .inl rfl, ?_, C2.out, C3.out, Nat.le_refl _, C4.out⟩, dbelow_set7 (B1.out.1.trans (B14.out.mono B1.out.1.size)) (Nat.le_refl _)⟩
 ·exact strs_keeps S2.out (((above_below B3.out).trans (above_below (B4.out))).trans (dabove_set7 B1.out.2))
 ·exact strs_keeps S3.out ((above_below B4.out).trans (dabove_set7 (Nat.lt_of_lt_of_le B1.out.2 B2.out.size)))
 ·exact strs_keeps S4.out (dabove_set7 (Nat.lt_of_lt_of_le B1.out.2 B13.out.size))
theorem second_block (w : World) (o o' : Obj) : ((w.alloc o).alloc o').heap[w.heap.size + 1]? = some o' := by
 have := heap_alloc_new (w.alloc o) o'
 rw [show (w.alloc o).heap.size = w.heap.size + 1 by simp] at this
 exact this
set_option maxHeartbeats 4000000 in
set_option maxRecDepth 100000 in
theorem with_any (x : DEl) (ns : List NeedD) (no : Option Addr) (nc : Nat) (r s : Int) (w : World) : Calls Tryz.prog 75 #[.agg #[.string x.d.name, .slice x.io x.d.ins.length x.ic, .slice x.oo x.d.outs.length x.oc, .slice x.no x.d.needs.length x.nc, .int .i64 x.d.regions, .int .i64 x.d.succs, .slice x.ko x.d.traits.length x.kc], .slice no ns.length nc, .int .i64 r, .int .i64 s] w fun e w' => e = .returned (.agg #[.string x.d.name, .slice x.io x.d.ins.length x.ic, .slice x.oo x.d.outs.length x.oc, .slice no ns.length nc, .int .i64 r, .int .i64 s, .slice x.ko x.d.traits.length x.kc]) ∧ Below w.heap.size w w' := by
 go_enter Tryz.func75, Tryz.ntmps75
 go_wp2_with fail
 refine bodyPost_ret (v := .agg #[.string x.d.name, .slice x.io x.d.ins.length x.ic, .slice x.oo x.d.outs.length x.oc, .slice no ns.length nc, .int .i64 r, .int .i64 s, .slice x.ko x.d.traits.length x.kc]) (results_cell Tryz.results75 rfl (rdefVar (second_block _ _ _))) rfl ?_
 exact ⟨rfl, ((Below.refl _ w).alloc (Nat.le_refl _) _).alloc (by simp) _⟩
theorem need_any (nm : ByteArray) (k : Int) (w : World) : Calls Tryz.prog 76 #[.string nm, .int .i64 k] w fun e w' => ∃ (ao : Option Addr) (c : Nat), e = .returned (.slice ao 1 c) ∧ NeedsAt (above w.heap.size w') ao [⟨nm, k⟩] ∧ 1 ≤ c ∧ Below w.heap.size w w' := by
 have hal := allocs_snoc w
 have hsz := allocs_size w
 show Calls _ _ _ (allocs w []) _
 go_enter Tryz.func76, Tryz.ntmps76
 go_wp2_with fail
 go_ret
 exact ⟨_, 1, rfl, row_is (allocs_new w _ 0 _ rfl), Nat.le_refl _, allocs_below w _⟩
end Go.Proofs.YtgimdkgjfenafaaGreatDoor
namespace Go.Proofs.YtgimdkgjfenafaaGreatDoor
open Go.RowKit Go.Shelf
attribute [local go_sem] Oper.semAt_some
def isIn (l : List ByteArray) (s : ByteArray) : Bool := l.any fun x => x.data.toList == s.data.toList
theorem isIn_iff (l : List ByteArray) (s : ByteArray) : isIn l s = true ↔ s ∈ l := by
 unfold isIn
 rw [List.any_eq_true]
 constructor
 ·rintro ⟨x, hx, h⟩
  have : x = s := by
   apply ByteArray.ext
   exact Array.ext' (eq_of_beq h)
  rwa [← this]
 ·exact fun h => ⟨s, h, beq_self_eq_true _⟩
theorem toList_inj {x y : ByteArray} (h : (x.toList == y.toList) = true) : x = y := by
 have := eq_of_beq h
 rw [ByteArray.toList_eq, ByteArray.toList_eq] at this
 apply ByteArray.ext
 exact Array.ext' this
theorem toList_ne {x y : ByteArray} (h : (x.toList == y.toList) = false) : x ≠ y := fun e => by rw [e] at h; simp at h
theorem isIn_at {ss : List ByteArray} {j : Nat} (h : j < ss.length) {z : ByteArray} (hz : z = ss[j]?.getD ByteArray.empty) : isIn ss z = true := by
 rw [List.getElem?_eq_getElem h] at hz
 rw [hz]
 exact (isIn_iff _ _).2 (List.getElem_mem h)
theorem isIn_no {ss : List ByteArray} {s : ByteArray} (h : ∀ k, k < ss.length → ss[k]?.getD ByteArray.empty ≠ s) : isIn ss s = false := by
 refine Bool.eq_false_iff.2 fun hm => ?_
 replace hm := (isIn_iff _ _).1 hm
 obtain ⟨k, hk, e⟩ := List.getElem_of_mem hm
 exact h k hk (by rw [List.getElem?_eq_getElem hk]; exact e)
def IdxPost (ss : List ByteArray) (s : ByteArray) (w : World) (e : Ending) (w' : World) : Prop := ∃ n : Int, e = .returned (.int .i64 n) ∧ decide (0 ≤ n) = isIn ss s ∧ w = w'
set_option maxHeartbeats 1000000 in
theorem Index_any (ao : Option Addr) (ss : List ByteArray) (c : Nat) (s : ByteArray) (hn : ss.length ≤ 9223372036854775807) (w : World) (h : StrsAt w ao ss) : Calls Tryz.prog 98 #[.slice ao ss.length c, .string s] w (IdxPost ss s w) := by
 have H := Lib.hid h
 have hni : (ss.length : Int) ≤ 9223372036854775807 := by omega
 clear h
 go_enter Tryz.func98, Tryz.ntmps98
 go_wp2_with fail
 go_loop [8] (fun i => ∃ m : Nat, m ≤ ss.length ∧ i = .int .i64 m ∧ Hid (∀ k, k < m → ss[k]?.getD ByteArray.empty ≠ s)) (fun i => ss.length - (intOf i).toNat)
 case atStart => exact ⟨0, Nat.zero_le _, rfl, fun k hk => absurd hk (Nat.not_lt_zero _)⟩
 case round =>
  obtain ⟨m, hm, rfl, HA⟩ := hrel
  by_cases hlt : m < ss.length
  ·rcases H.out with h0 | ⟨a, rfl, hc⟩
   ·rw [h0] at hlt; exact absurd hlt (Nat.not_lt_zero _)
   have hcm := hc m hlt
   clear hc
   obtain ⟨z, hz⟩ : ∃ z, z = ss[m]?.getD ByteArray.empty := ⟨_, rfl⟩
   rw [← hz] at hcm
   have HZ := Lib.hid hz
   have HLT := Lib.hid hlt
   have hlti : (m : Int) < (ss.length : Int) := by omega
   clear hz hlt hm
   cases heq : (s.toList == z.toList)
   ·have HNE := Lib.hid (toList_ne heq)
    go_wp2_with fail
    go_round
    case rel => exact ⟨m + 1, HLT.out, by go_num, fun k hk => by rcases Nat.lt_or_ge k m with h | h; exact HA.out k h; rw [show k = m by omega, ← HZ.out]; exact fun e => HNE.out e.symm⟩
    case measure => have := HLT.out; simp only [intOf]; omega
   ·have HEQ := Lib.hid (toList_inj heq)
    go_wp2_with fail
    go_ret
    exact ⟨m, rfl, by rw [HEQ.out, isIn_at HLT.out HZ.out]; exact decide_eq_true (Int.natCast_nonneg m), rfl⟩
  ·have hge : ¬ (m : Int) < (ss.length : Int) := by omega
   have HNO := Lib.hid (isIn_no (ss := ss) (s := s) fun k hk => HA.out k (by omega))
   clear hlt hm
   go_wp2_with fail
   go_ret
   exact ⟨-1, rfl, by rw [HNO.out]; rfl, rfl⟩
theorem Contains_any (ao : Option Addr) (ss : List ByteArray) (c : Nat) (s : ByteArray) (hn : ss.length ≤ 9223372036854775807) (w : World) (h : StrsAt w ao ss) : Calls Tryz.prog 62 #[.slice ao ss.length c, .string s] w fun e w' => e = .returned (.bool (isIn ss s)) ∧ w = w' := by
 go_enter Tryz.func62, Tryz.ntmps62
 go_wp2_with fail
 refine (Index_any ao ss c s hn w h).mono ?_
 rintro e w' ⟨n, rfl, hd, rfl⟩
 have HD := Lib.hid hd
 clear hd h
 go_wp2_with fail
 go_ret
 exact ⟨by rw [← HD.out]; rfl, rfl⟩
set_option maxHeartbeats 1000000 in
theorem RHas_any (ao : Option Addr) (ss : List ByteArray) (c : Nat) (s : ByteArray) (hn : ss.length ≤ 9223372036854775807) (w : World) (h : StrsAt w ao ss) : Calls Tryz.prog 33 #[.slice ao ss.length c, .string s] w fun e w' => e = .returned (.bool (isIn ss s)) ∧ w = w' := by
 have H := Lib.hid h
 have hni : (ss.length : Int) ≤ 9223372036854775807 := by omega
 clear h
 go_enter Tryz.func33, Tryz.ntmps33
 go_wp2_with fail
 go_loop [5] (fun i => ∃ m : Nat, m ≤ ss.length ∧ i = .int .i64 m ∧ Hid (∀ k, k < m → ss[k]?.getD ByteArray.empty ≠ s)) (fun i => ss.length - (intOf i).toNat)
 case atStart => exact ⟨0, Nat.zero_le _, rfl, fun k hk => absurd hk (Nat.not_lt_zero _)⟩
 case round =>
  obtain ⟨m, hm, rfl, HA⟩ := hrel
  by_cases hlt : m < ss.length
  ·rcases H.out with h0 | ⟨a, rfl, hc⟩
   ·rw [h0] at hlt; exact absurd hlt (Nat.not_lt_zero _)
   have hcm := hc m hlt
   clear hc
   obtain ⟨z, hz⟩ : ∃ z, z = ss[m]?.getD ByteArray.empty := ⟨_, rfl⟩
   rw [← hz] at hcm
   have HZ := Lib.hid hz
   have HLT := Lib.hid hlt
   have hlti : (m : Int) < (ss.length : Int) := by omega
   clear hz hlt hm
   cases heq : (z.toList == s.toList)
   ·have HNE := Lib.hid (toList_ne heq)
    go_wp2_with fail
    go_round
    case rel => exact ⟨m + 1, HLT.out, by go_num, fun k hk => by rcases Nat.lt_or_ge k m with h | h; exact HA.out k h; rw [show k = m by omega, ← HZ.out]; exact HNE.out⟩
    case measure => have := HLT.out; simp only [intOf]; omega
   ·have HEQ := Lib.hid (toList_inj heq)
    have HI := Lib.hid (show isIn ss s = true by rw [← HEQ.out]; exact isIn_at HLT.out HZ.out)
    go_wp2_with fail
    go_ret
    exact ⟨by rw [HI.out]; rfl, rfl⟩
  ·have hge : ¬ (m : Int) < (ss.length : Int) := by omega
   have HNO := Lib.hid (isIn_no (ss := ss) (s := s) fun k hk => HA.out k (by omega))
   clear hlt hm
   go_wp2_with fail
   go_ret
   exact ⟨by rw [HNO.out]; rfl, rfl⟩
def effectsL : List ByteArray := [⟨#[99, 97, 108, 108, 115]⟩, ⟨#[112, 114, 105, 110, 116, 115]⟩, ⟨#[114, 101, 97, 100, 115]⟩, ⟨#[116, 114, 97, 112, 115]⟩, ⟨#[119, 114, 105, 116, 101, 115]⟩]
def allTraitsL : List ByteArray := [⟨#[99, 97, 108, 108, 115]⟩, ⟨#[112, 114, 105, 110, 116, 115]⟩, ⟨#[114, 101, 97, 100, 115]⟩, ⟨#[116, 114, 97, 112, 115]⟩, ⟨#[119, 114, 105, 116, 101, 115]⟩, ⟨#[98, 108, 111, 99, 107, 115]⟩, ⟨#[99, 111, 109, 109, 117, 116, 101, 115]⟩, ⟨#[101, 110, 100]⟩, ⟨#[112, 117, 114, 101]⟩]
def traitsL : List ByteArray := [⟨#[98, 108, 111, 99, 107, 115]⟩, ⟨#[99, 97, 108, 108, 115]⟩, ⟨#[99, 111, 109, 109, 117, 116, 101, 115]⟩, ⟨#[101, 110, 100]⟩, ⟨#[112, 114, 105, 110, 116, 115]⟩, ⟨#[112, 117, 114, 101]⟩, ⟨#[114, 101, 97, 100, 115]⟩, ⟨#[116, 114, 97, 112, 115]⟩, ⟨#[119, 114, 105, 116, 101, 115]⟩]
theorem RTraits_any (w : World) : Calls Tryz.prog 31 #[] w (StrsPost traitsL w) := by
 have hal := allocs_snoc w
 have hsz := allocs_size w
 show Calls _ _ _ (allocs w []) _
 go_enter Tryz.func31, Tryz.ntmps31
 go_wp2_with fail
 go_ret
 exact ⟨_, 9, rfl, strs_is (allocs_new w _ 0 _ rfl), Nat.le_refl _, allocs_below w _⟩
theorem effects_any (w : World) : Calls Tryz.prog 99 #[] w fun e w' => e = .returned (.slice (some ⟨w.heap.size, 0, none⟩) 5 5) ∧ w' = w.alloc (.cells (effectsL.map .string).toArray 9) := by
 go_enter Tryz.func99, Tryz.ntmps99
 go_wp2_with ((with_reducible refine (list_any _ _).mono ?_); rintro e w' ⟨rfl, rfl⟩)
 go_ret
 exact ⟨rfl, rfl⟩
theorem append_many {T E ty : TypeId} {sz : Nat} (hT : Tryz.prog.underlying T = some (.slice E)) (hI : InfoIs E sz) (hsz : 0 < sz) {w : World} {B : Nat} {ao : Option Addr} {n c m : Nat} {xs news : List Value} (h : w.ownsRow B E sz (.slice ao n c) n xs) (hB : B ≤ w.heap.size) (h3 : n + m ≤ 2000000)
  (hn : news.length = m * sz) (h1 : news.all Value.oneCell' = true) (T2 : TypeId) :
  ∃ ao' c' w', (Builtin.append_ #[T, T] ty #[.slice ao n c, .slice (some ⟨w.heap.size, 0, none⟩) m m]).run Tryz.prog (w.alloc (.cells news.toArray T2)) = .ok (.slice ao' (n + m) c') w' ∧
   w'.ownsRow B E sz (.slice ao' (n + m) c') (n + m) (xs ++ news) ∧ Below B w w' := by
 obtain ⟨i, z, hi, hz, hs, hzs, hby⟩ := hI
 have hown : (w.alloc (.cells news.toArray T2)).ownsRow B E sz (.slice ao n c) n xs := ownsRow_below h (new_below _ _)
 have hcell : ∀ j u, news[j]? = some u → (w.alloc (.cells news.toArray T2)).cell? ((⟨w.heap.size, 0, none⟩ : Addr).add j) = some u := by
  intro j u hj
  rw [at_row, in_row (heap_alloc_new _ _), List.getElem?_toArray]
  exact hj
 obtain ⟨v', w', hr, g1, g2, _, g4⟩ := run_append_own_at (P := Tryz.prog) (w.alloc (.cells news.toArray T2)) B T ty E i z sz i.bytes hT hi hz hs rfl hzs hsz
  (.slice ao n c) n xs hown ⟨w.heap.size, 0, none⟩ m m news hn hcell (fun u hu => List.all_eq_true.1 h1 u hu) (by simp only [maxLen]; omega) (Nat.le_trans (Nat.mul_le_mul (show n + m ≤ 2000001 by omega) hby) (by decide)) (by simp; omega)
 obtain ⟨ao', c', rfl⟩ : ∃ ao' c', v' = .slice ao' (n + m) c' := by
  rcases g1.2 with ⟨rfl, h0⟩ | ⟨g, cap, cur, rfl, _⟩
  ·exact ⟨none, 0, by rw [h0]⟩
  ·exact ⟨_, _, rfl⟩
 have hsz2 : w.heap.size ≤ w'.heap.size := by have := g2.size; simp at this; omega
 refine ⟨ao', c', w', hr, g1, g2.os.trans rfl, g2.tape.trans rfl, g2.output.trans rfl, hsz2, fun k hkB => ?_⟩
 refine (g2.block k (by simp; omega) (by rw [own_block]; exact fun e => by have := (own_lt' h k e).1; omega)).trans (Below.heap_alloc _ _ _ (by omega))
theorem wp_run_append' {ops : Array Oper} {rest : List Oper} {o : Oper} {a : Act} {Q : Exit → Act → World → Prop} {w : World} (hgd : o.guard = none) (s x : Operand) (T : TypeId)
  (ho : o.op = .call { callee := .builtin .append, args := #[s, x], argTypes := #[T, T] }) {vs vx v' : Value} {w' : World} (hs : a.eval s = vs) (hx : a.eval x = vx)
  (hr : (Builtin.append_ #[T, T] o.type #[vs, vx]).run Tryz.prog w = .ok v' w') (hk : wpList Tryz.prog ops Q rest (a.put o.dst v') w') :
  wpList Tryz.prog ops Q (o :: rest) a w := by
 refine wpList_plain hgd fun K hK => ?_
 unfold Oper.wp execOp
 simp only [ho, resolve, invoke, builtin, Sem.run_bind, Sem.run_pure, Result.andThen_ok, List.map_toArray, List.map_cons, List.map_nil, hs, hx, hr]
 exact hK _ _ hk
theorem allTraits_any (w : World) : Calls Tryz.prog 63 #[] w (StrsPost allTraitsL w) := by
 have hr0 : (w.alloc (.cells (effectsL.map .string).toArray 9)).ownsRow w.heap.size 9 1 (.slice (some ⟨w.heap.size, 0, none⟩) 5 5) 5 (effectsL.map .string) :=
  ⟨rfl, .inr ⟨w.heap.size, 5, _, rfl, Nat.le_refl _, heap_alloc_new _ _, Nat.le_refl _, by decide, rfl, rfl⟩⟩
 go_enter Tryz.func63, Tryz.ntmps63
 go_wp2_with fail
 refine (effects_any w).mono ?_
 rintro e w1 ⟨rfl, hw1⟩
 have HO := Lib.hid (show w1.ownsRow w.heap.size 9 1 (.slice (some ⟨w.heap.size, 0, none⟩) 5 5) 5 (effectsL.map .string) by rw [hw1]; exact hr0)
 have HB := Lib.hid (show Below w.heap.size w w1 by rw [hw1]; exact new_below _ _)
 clear hw1 hr0
 obtain ⟨ao', c', w2, hr, g1, g2⟩ := append_many (T := 27) (ty := 27) (m := 4) Tryz.underlying27 info_string (by decide) HO.out HB.out.size (by decide) (news := [.string ⟨#[98, 108, 111, 99, 107, 115]⟩, .string ⟨#[99, 111, 109, 109, 117, 116, 101, 115]⟩, .string ⟨#[101, 110, 100]⟩, .string ⟨#[112, 117, 114, 101]⟩]) rfl rfl 9
 have HR := Lib.hid hr
 have G1 := Lib.hid (own_above g1)
 have G2 := Lib.hid (HB.out.trans (g2.mono (Nat.le_refl _)))
 clear hr g1 g2
 go_wp2_with (at_builtin; refine wp_run_append' rfl _ _ 27 rfl rfl rfl HR.out ?_)
 go_ret
 exact ⟨ao', c', rfl, own_strs G1.out rfl, (row_own G1.out).2, G2.out⟩
set_option maxHeartbeats 1000000 in
theorem hasAny_any (ao so : Option Addr) (l some_ : List ByteArray) (c sc : Nat) (hn : l.length ≤ 9223372036854775807) (hm : some_.length ≤ 9223372036854775807) (w : World) (h : StrsAt w ao l) (h2 : StrsAt w so some_) : Calls Tryz.prog 155 #[.slice ao l.length c, .slice so some_.length sc] w fun e w' => e = .returned (.bool (some_.any (isIn l))) ∧ w = w' := by
 have H := Lib.hid h
 have H2 := Lib.hid h2
 have HN := Lib.hid hn
 have hni : (some_.length : Int) ≤ 9223372036854775807 := by omega
 clear h h2 hn
 go_enter Tryz.func155, Tryz.ntmps155
 go_wp2_with fail
 go_loop [9] (fun i => ∃ m : Nat, m ≤ some_.length ∧ i = .int .i64 m ∧ Hid (∀ k, k < m → isIn l (some_[k]?.getD ByteArray.empty) = false)) (fun i => some_.length - (intOf i).toNat)
 case atStart => exact ⟨0, Nat.zero_le _, rfl, fun k hk => absurd hk (Nat.not_lt_zero _)⟩
 case round =>
  obtain ⟨m, hm, rfl, HA⟩ := hrel
  by_cases hlt : m < some_.length
  ·rcases H2.out with h0 | ⟨a, rfl, hc⟩
   ·rw [h0] at hlt; exact absurd hlt (Nat.not_lt_zero _)
   have hcm := hc m hlt
   clear hc
   obtain ⟨z, hz⟩ : ∃ z, z = some_[m]?.getD ByteArray.empty := ⟨_, rfl⟩
   rw [← hz] at hcm
   have HZ := Lib.hid hz
   have HLT := Lib.hid hlt
   have hlti : (m : Int) < (some_.length : Int) := by omega
   clear hz hlt hm
   go_wp2_with fail
   refine (Contains_any ao l c z HN.out _ H.out).mono ?_
   rintro e w' ⟨rfl, rfl⟩
   cases hin : isIn l z
   ·have HNE := Lib.hid hin
    go_wp2_with fail
    go_round
    case rel => exact ⟨m + 1, HLT.out, by go_num, fun k hk => by rcases Nat.lt_or_ge k m with h | h; exact HA.out k h; rw [show k = m by omega, ← HZ.out]; exact HNE.out⟩
    case measure => have := HLT.out; simp only [intOf]; omega
   ·have HI := Lib.hid (show some_.any (isIn l) = true from List.any_eq_true.2 ⟨z, by have := HZ.out; rw [List.getElem?_eq_getElem HLT.out] at this; rw [this]; exact List.getElem_mem HLT.out, hin⟩)
    go_wp2_with fail
    go_ret
    exact ⟨by rw [HI.out]; rfl, rfl⟩
  ·have hge : ¬ (m : Int) < (some_.length : Int) := by omega
   have HNO := Lib.hid (show some_.any (isIn l) = false from List.any_eq_false.2 fun x hx => by
    obtain ⟨k, hk, e⟩ := List.getElem_of_mem hx
    have := HA.out k (by omega)
    rw [List.getElem?_eq_getElem hk] at this
    rw [← e]
    simpa using this)
   clear hlt hm
   go_wp2_with fail
   go_ret
   exact ⟨by rw [HNO.out]; rfl, rfl⟩
end Go.Proofs.YtgimdkgjfenafaaGreatDoor
