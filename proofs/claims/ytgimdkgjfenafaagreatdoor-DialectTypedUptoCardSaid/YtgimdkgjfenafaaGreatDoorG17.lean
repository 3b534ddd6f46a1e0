import Derived.Test.YtgimdkgjfenafaaGreatDoorG14
import Derived.Test.YtgimdkgjfenafaaGreatDoorG13
namespace Go.Proofs.YtgimdkgjfenafaaGreatDoor
open Go.RowKit Go.Shelf
attribute [local go_sem] Oper.semAt_some
structure Col (w : World) (es : List Int) (W : World) : Prop where
 box : ∃ ao c, W.heap[w.heap.size]? = some (.cells #[.slice ao es.length c] 56 (0, 0)) ∧ W.ownsRow (w.heap.size + 1) 3 1 (.slice ao es.length c) es.length (es.map (.int .i64))
 below : Below w.heap.size w W
 size : w.heap.size + 1 ≤ W.heap.size
theorem col_own (w : World) (B : Nat) (hB : w.heap.size ≤ B) : OwnFrom B (fun (pre : List Ext) W => Col w (pre.map (·.1)) W) := by
 intro s X Y row h hg hr
 have ncell : ∀ {k : Nat} {cs : Array Value} {t : TypeId} {fr : Nat × Nat}, X.heap[k]? = some (.cells cs t fr) → some k ≠ row := by
  intro k cs t fr hk e
  obtain ⟨_, o, ho, hc⟩ := hr k e.symm
  rw [hk] at ho
  cases ho
  cases hc
 obtain ⟨ao, c, hv, ho⟩ := h.box
 refine ⟨⟨ao, c, (hg.block _ (lt_of_block hv) (ncell hv)).trans hv, ho.kept hg ?_⟩, h.below.grown hg h.below.size (fun k e => Nat.le_trans hB (hr k e).1), Nat.le_trans h.size hg.size⟩
 rcases ho.2 with ⟨h1, _⟩ | ⟨g, cap, cur, h1, _, hh, _⟩
 ·rw [h1]; exact .inl rfl
 ·rw [h1]; exact .inr (ncell hh)
theorem append_keeps {w : World} {B : Nat} {ao : Option Addr} {c : Nat} {es : List Int} (h : w.ownsRow B 3 1 (.slice ao es.length c) es.length (es.map (.int .i64))) (hB : B ≤ w.heap.size) (h3 : es.length ≤ 3) (x : Int) (T : TypeId) {ty : TypeId} :
  ∃ ao' c' w', (Builtin.append_ #[56, 56] ty #[.slice ao es.length c, .slice (some ⟨w.heap.size, 0, none⟩) 1 1]).run Tryz.prog (w.alloc (.cells #[.int .i64 x] T)) = .ok (.slice ao' (es.length + 1) c') w' ∧
   w'.ownsRow B 3 1 (.slice ao' (es ++ [x]).length c') (es ++ [x]).length ((es ++ [x]).map (.int .i64)) ∧ Below B w w' ∧ w.heap.size ≤ w'.heap.size ∧ KeepsOthers w w' ∧ KeepD w w' := by
 obtain ⟨i, hi, hz, hsz, hby⟩ := info_int
 have hown : (w.alloc (.cells #[.int .i64 x] T)).ownsRow B 3 1 (.slice ao es.length c) es.length (es.map (.int .i64)) := by
  refine ⟨h.1, ?_⟩
  rcases h.2 with h | ⟨g, c', cur, hv, hb, hg, hr⟩
  ·exact .inl h
  ·exact .inr ⟨g, c', cur, hv, hb, (Below.heap_alloc _ _ _ (lt_of_block hg)).trans hg, hr⟩
 have hcell : ∀ j u, [Value.int .i64 x][j]? = some u → (w.alloc (.cells #[.int .i64 x] T)).cell? ((⟨w.heap.size, 0, none⟩ : Addr).add j) = some u := by
  intro j u hj
  cases j with
  | zero =>
   simp only [List.getElem?_cons_zero, Option.some.injEq] at hj
   subst hj
   rw [Addr.add_lit, cell_of_row _ _ _ _ _ _ (heap_alloc_new _ _)]
   rfl
  | succ j => simp at hj
 obtain ⟨v', w', hr, h1, h2, _, h4⟩ := run_append_own_at (P := Tryz.prog) (w.alloc (.cells #[.int .i64 x] T)) B 56 ty 3 i (.int .i64 0) 1 8 Tryz.underlying56 hi hz hsz hby rfl (by decide)
  (.slice ao es.length c) es.length (es.map (.int .i64)) hown ⟨w.heap.size, 0, none⟩ 1 1 [.int .i64 x] rfl hcell (fun u hu => by simp only [List.mem_singleton] at hu; subst hu; rfl) (by simp only [maxLen]; omega) (by omega) (by simp; omega)
 obtain ⟨ao', c', rfl⟩ := own_slice h1
 have hs : w.heap.size ≤ w'.heap.size := by have := h2.size; simp at this; omega
 have hk : ∀ k, k < w.heap.size → some k ≠ (Value.slice ao es.length c).ownBlock → w'.heap[k]? = w.heap[k]? := fun k hk hne =>
  (h2.block k (by simp; omega) hne).trans (Below.heap_alloc _ _ _ (by omega))
 have hty : ∀ {k : Nat} {o : Obj}, w.heap[k]? = some o → (∀ cur, o ≠ .cells cur 3 (0, 0)) → some k ≠ (Value.slice ao es.length c).ownBlock := by
  intro k o ho hno e
  rcases h.2 with ⟨hv, _⟩ | ⟨g, c', cur, hv, hb, hg, _⟩
  ·rw [hv] at e; cases e
  ·rw [hv] at e
   cases e
   rw [hg] at ho
   exact hno cur (Option.some.inj ho).symm
 refine ⟨ao', c', w', hr, ?_, ?_, hs, ⟨hs, fun k o ho hc => ?_⟩, fun k cs fr hkk => ?_⟩
 ·rw [List.length_append, List.map_append]
  exact h1
 ·refine ⟨h2.os.trans rfl, h2.tape.trans rfl, h2.output.trans rfl, by omega, fun k hkB => hk k (by omega) (fun e => ?_)⟩
  have := own_below hown e.symm
  omega
 ·exact (hk k (lt_of_block ho) (hty ho (fun cur e => by subst e; cases hc))).trans ho
 ·exact (hk k (lt_of_block hkk) (hty hkk (fun cur e => by injection e with _ e _; exact absurd e (by decide)))).trans hkk
theorem keeps_set {W w3 : World} {b : Nat} {cs : Array Value} {t : TypeId} {fr : Nat × Nat} (hk : KeepsOthers W w3) (hb : w3.heap[b]? = some (.cells cs t fr)) (v : Value) : KeepsOthers W (w3.setCell ⟨b, 0, none⟩ v) :=
 hk.trans ⟨by rw [setCell_size]; exact Nat.le_refl _, fun k o ho hc => by
  by_cases e : k = b
  ·subst e
   rw [hb] at ho
   cases ho
   cases hc
  ·exact (heap_setCell_other _ _ _ _ e).trans ho⟩
theorem IntsAt.put {w : World} {ao : Option Addr} {zs : List Int} {l : Nat} {o : Obj} (h : IntsAt w ao zs) (hl : w.heap[l]? = some o) (ho : o.isCells = false) (o' : Obj) : IntsAt (w.putObj l o') ao zs := by
 rcases h with h | ⟨a, rfl, hc⟩
 ·exact .inl h
 ·refine .inr ⟨a, rfl, fun j hj => ?_⟩
  have h1 := hc j hj
  have hne : (a.add j).block ≠ l := by
   intro e
   unfold World.cell? at h1
   rw [e, hl] at h1
   cases o <;> simp [Obj.isCells] at ho h1
  rw [← h1]
  unfold World.cell?
  rw [World.putObj_heap_other hne]
theorem exts_map (r : Nat) (x0 x1 x2 : Ext) : (exts r x0 x1 x2).map (·.1) = [x0.1, x1.1, x2.1].take r := by rw [exts, List.map_take]; rfl
end Go.Proofs.YtgimdkgjfenafaaGreatDoor
