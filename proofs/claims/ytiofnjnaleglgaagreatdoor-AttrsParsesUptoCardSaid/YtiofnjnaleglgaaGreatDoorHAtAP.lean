/-
  Appending attributes to a slice of the call's own: one, or those of another slice.
-/
import Derived.Test.YtiofnjnaleglgaaGreatDoorG32
namespace Go.Proofs.YtiofnjnaleglgaaGreatDoor
open Go.RowKit Go.Shelf

/-- Elements that lie one behind the other from an address on. -/
def ElsFrom (w : World) (a : Addr) (L : List El) : Prop := L = [] ∨ (a.spot = none ∧ ∀ j (h : j < L.length), ElAt w a.block (a.off + j * 6) L[j].a L[j].ai L[j].ci L[j].ao L[j].ct)
theorem cell_of_els {w : World} {a : Addr} {L : List El} (h : ElsFrom w a L) : ∀ j u, (L.flatMap El.cells)[j]? = some u → w.cell? (a.add j) = some u := by
  intro j u hj
  have hlt : j < L.length * 6 := by have := (List.getElem?_eq_some_iff.1 hj).1; rwa [cells_length] at this
  rcases h with rfl | ⟨hs, h⟩
  · exact absurd hlt (by simp)
  obtain ⟨ab, ao, asp⟩ := a
  dsimp only at hs
  subst hs
  have hq : j / 6 < L.length := by omega
  have hr : j % 6 < 6 := Nat.mod_lt _ (by decide)
  have he := h (j / 6) hq
  have hf := flat6 L (j / 6) (j % 6) hq hr
  rw [show j / 6 * 6 + j % 6 = j by omega, hj] at hf
  have hadd : ∀ j, (⟨ab, ao, none⟩ : Addr).add j = ⟨ab, ao + j, none⟩ := fun j => by unfold Addr.add; split <;> simp_all
  rw [hadd, show ao + j = ao + j / 6 * 6 + j % 6 by omega]
  generalize j % 6 = k at hf hr ⊢
  rcases k with _ | _ | _ | _ | _ | _ | k
  · cases hf; exact he.c0
  · cases hf; exact he.c1
  · cases hf; exact he.c2
  · cases hf; exact he.c3
  · cases hf; exact he.c4
  · cases hf; exact he.c5
  · omega
theorem els_front {w : World} {bk o : Nat} {L : List El} (h : ∀ j (h : j < L.length), ElAt w bk (o + j * 6) L[j].a L[j].ai L[j].ci L[j].ao L[j].ct) (q : Nat) : ElsFrom w ⟨bk, o, none⟩ (L.take q) := by
  refine .inr ⟨rfl, fun j hj => ?_⟩
  rw [List.length_take] at hj
  rw [List.getElem_take]
  exact h j (by omega)
theorem els_back {w : World} {bk o : Nat} {L : List El} (h : ∀ j (h : j < L.length), ElAt w bk (o + j * 6) L[j].a L[j].ai L[j].ci L[j].ao L[j].ct) (q : Nat) : ElsFrom w ⟨bk, o + q * 6, none⟩ (L.drop q) := by
  refine .inr ⟨rfl, fun j hj => ?_⟩
  rw [List.length_drop] at hj
  rw [List.getElem_drop]
  dsimp only
  rw [show o + q * 6 + j * 6 = o + (q + j) * 6 by omega]
  exact h (q + j) (by omega)
theorem cells_one {L : List El} : ∀ u ∈ L.flatMap El.cells, u.oneCell' = true := fun u hu => by
  obtain ⟨e, _, he⟩ := List.mem_flatMap.1 hu
  simp only [El.cells, List.mem_cons, List.not_mem_nil, or_false] at he
  rcases he with rfl | rfl | rfl | rfl | rfl | rfl <;> rfl

/-- Attributes that lie somewhere are appended to a slice of the call's own. -/
theorem append_many {w : World} {B : Nat} {ao : Option Addr} {c : Nat} {es L : List El} (h : w.ownsRow B 29 6 (.slice ao es.length c) es.length (es.flatMap El.cells)) (hB : B ≤ w.heap.size) (h3 : es.length + L.length ≤ 2000) {x : Addr} (cx : Nat) (hL : ElsFrom w x L) {ty : TypeId} :
    ∃ ao' c' w', (Builtin.append_ #[22, 22] ty #[.slice ao es.length c, .slice (some x) L.length cx]).run Tryz.prog w = .ok (.slice ao' (es.length + L.length) c') w' ∧
      w'.ownsRow B 29 6 (.slice ao' (es ++ L).length c') (es ++ L).length ((es ++ L).flatMap El.cells) ∧ Below B w w' := by
  obtain ⟨i, hi, hz, hsz, hby⟩ := info_attr
  obtain ⟨v', w', hr, h1, h2, _, h4⟩ := run_append_own_at (P := Tryz.prog) w B 22 ty 29 i _ 6 i.bytes Tryz.underlying22 hi hz hsz rfl rfl (by decide)
    (.slice ao es.length c) es.length (es.flatMap El.cells) h x L.length cx (L.flatMap El.cells) (cells_length L) (cell_of_els hL) cells_one (by simp only [maxLen]; omega) (by
      have : (es.length + L.length) * i.bytes ≤ 2000 * i.bytes := Nat.mul_le_mul_right _ (by omega)
      omega) hB
  obtain ⟨ao', c', rfl⟩ := own6_slice h1
  refine ⟨ao', c', w', hr, ?_, ?_⟩
  · rw [List.length_append, List.flatMap_append]
    exact h1
  · refine ⟨h2.os, h2.tape, h2.output, by have := h2.size; omega, fun k hkB => h2.block k (by omega) (fun e => ?_)⟩
    rcases h.2 with ⟨hv, _⟩ | ⟨g, cc, cur, hv, hb, hg, _⟩
    · rw [hv] at e; cases e
    · rw [hv] at e
      cases e
      dsimp only at hkB
      omega

theorem wp_append_many {ops : Array Oper} {rest : List Oper} {o : Oper} {a : Act} {Q : Exit → Act → World → Prop} {w : World} (hgd : o.guard = none) (s x : Operand)
    (ho : o.op = .call { callee := .builtin .append, args := #[s, x], argTypes := #[22, 22] }) {B : Nat} {ao : Option Addr} {c : Nat} {es L : List El} {x0 : Addr} {n m cx : Nat}
    (h : w.ownsRow B 29 6 (.slice ao es.length c) es.length (es.flatMap El.cells)) (hB : B ≤ w.heap.size) (h3 : es.length + L.length ≤ 2000) (hL : ElsFrom w x0 L) (hn : n = es.length) (hm : m = L.length) (hs : a.eval s = .slice ao n c) (hx : a.eval x = .slice (some x0) m cx)
    (hk : ∀ ao' c' w', w'.ownsRow B 29 6 (.slice ao' (es ++ L).length c') (es ++ L).length ((es ++ L).flatMap El.cells) → Below B w w' → wpList Tryz.prog ops Q rest (a.put o.dst (.slice ao' (n + m) c')) w') :
    wpList Tryz.prog ops Q (o :: rest) a w := by
  subst hm hn
  obtain ⟨ao', c', w', hr, h1, h2⟩ := append_many (ty := o.type) h hB h3 cx hL
  refine wpList_plain hgd fun K hK => ?_
  unfold Oper.wp execOp
  simp only [ho, resolve, invoke, builtin, Sem.run_bind, Sem.run_pure, Result.andThen_ok, List.map_toArray, List.map_cons, List.map_nil, hs, hx, hr]
  exact hK _ _ (hk ao' c' w' h1 h2)

theorem wp_append_one {ops : Array Oper} {rest : List Oper} {o : Oper} {a : Act} {Q : Exit → Act → World → Prop} {w : World} (hgd : o.guard = none) (s x : Operand)
    (ho : o.op = .call { callee := .builtin .append, args := #[s, x], argTypes := #[22, 22] }) {B : Nat} {ao : Option Addr} {c : Nat} {es : List El} {e : El}
    (h : w.ownsRow B 29 6 (.slice ao es.length c) es.length (es.flatMap El.cells)) (hB : B ≤ w.heap.size) (h3 : es.length ≤ 2000) (hs : a.eval s = .slice ao es.length c) (hx : a.eval x = .slice (some ⟨w.heap.size, 0, none⟩) 1 1)
    (hk : ∀ ao' c' w', w'.ownsRow B 29 6 (.slice ao' (es ++ [e]).length c') (es ++ [e]).length ((es ++ [e]).flatMap El.cells) → Below B w w' → wpList Tryz.prog ops Q rest (a.put o.dst (.slice ao' (es.length + 1) c')) w') :
    wpList Tryz.prog ops Q (o :: rest) a (w.alloc (.cells #[.string e.a.name, .int .i64 e.a.kind, .int .i64 e.a.num, .string e.a.text, .slice e.ai e.a.ints.length e.ci, .slice e.ao e.a.texts.length e.ct] 29)) := by
  obtain ⟨ao', c', w', hr, h1, h2, _, _⟩ := append6_keeps (ty := o.type) h hB h3 e 29
  simp only [El.cells] at hr
  refine wpList_plain hgd fun K hK => ?_
  unfold Oper.wp execOp
  simp only [ho, resolve, invoke, builtin, Sem.run_bind, Sem.run_pure, Result.andThen_ok, List.map_toArray, List.map_cons, List.map_nil, hs, hx, hr]
  exact hK _ _ (hk ao' c' w' h1 h2)
end Go.Proofs.YtiofnjnaleglgaaGreatDoor
