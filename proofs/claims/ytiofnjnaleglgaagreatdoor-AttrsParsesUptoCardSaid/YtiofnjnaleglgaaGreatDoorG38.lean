/-
  Texts of mine in one file: AtPD.
-/
import Derived.Test.YtiofnjnaleglgaaGreatDoorG36
import Derived.Test.YtiofnjnaleglgaaGreatDoorG37
import Derived.Test.YtiofnjnaleglgaaGreatDoorG32
import Derived.Test.YtiofnjnaleglgaaGreatDoorG27
/-
  'readList' and 'Parse' by contracts.
-/
namespace Go.Proofs.YtiofnjnaleglgaaGreatDoor
open Go.RowKit Go.Shelf
attribute [local go_sem] Oper.semAt_some

set_option maxHeartbeats 400000 in
theorem items_any (s : ByteArray) (w : World) : Calls Tryz.prog 86 #[.string s] w fun e w' => ∃ b, e = .returned (.func (.func 114) #[] #[.pointer (some ⟨b, 0, none⟩)]) ∧ w'.heap[b]? = some (.cells #[.string s] 9 (0, 0)) ∧ Below w.heap.size w w' := by
  have T0 := Lib.hid (heap_alloc_new w (.cells #[.string s] 9))
  go_enter Tryz.func86, Tryz.ntmps86
  go_wp2_with fail
  go_ret
  exact ⟨_, rfl, T0.out, alloc_below w _⟩
theorem items_seq (n : Nat) (hn : 1 ≤ n) (S : Nat) (body : ByteArray) (hbs : body.size ≤ 140737488355327) (w : World) (hS : w.heap[S]? = some (.cells #[.string body] 9 (0, 0))) :
    SeqT Fence.wide n Tryz.prog 114 #[.pointer (some ⟨S, 0, none⟩)] (fun x : Piece body => #[.string x.1]) TurnE KeepE (PartsOf body) (PartsPre body) (body.size + 1) w :=
  fun l J Jx W hW hJ _ hY h0 => items1_in n hn l S body hbs J Jx W hJ hY ((hW.block S (lt_of_block hS)).trans hS) h0

/-- An attribute whose lists lie in blocks of their own kinds. -/
structure ElK (W : World) (e : El) : Prop where
  ok : ElOK W e
  li : LiesI W e.ai
  ty : TypAt W e.ao
theorem ElK.kept {W W' : World} {e : El} (h : ElK W e) (hk : ∀ (k : Nat) (cs : Array Value) (t : TypeId), (t = 2 ∨ t = 9) → W.heap[k]? = some (.cells cs t (0, 0)) → W'.heap[k]? = some (.cells cs t (0, 0))) : ElK W' e := by
  refine ⟨⟨?_, ?_, h.ok.icap, h.ok.tcap, h.ok.wf⟩, fun a ha => ?_, fun a ha => ?_⟩
  · rcases h.ok.ints with h0 | ⟨a, ha, hc⟩
    · exact .inl h0
    · refine .inr ⟨a, ha, fun j hj => ?_⟩
      obtain ⟨cs, hcs⟩ := h.li a ha
      exact cell_block (hc j hj) (by rw [add_block, hk _ _ _ (.inl rfl) hcs, hcs])
  · rcases h.ok.texts with h0 | ⟨a, ha, hc⟩
    · exact .inl h0
    · refine .inr ⟨a, ha, fun j hj => ?_⟩
      obtain ⟨cs, hcs⟩ := h.ty a ha
      exact cell_block (hc j hj) (by rw [add_block, hk _ _ _ (.inr rfl) hcs, hcs])
  · obtain ⟨cs, hcs⟩ := h.li a ha
    exact ⟨cs, hk _ _ _ (.inl rfl) hcs⟩
  · obtain ⟨cs, hcs⟩ := h.ty a ha
    exact ⟨cs, hk _ _ _ (.inr rfl) hcs⟩
theorem ElK.below {W W' : World} {e : El} (h : ElK W e) (hb : Below W.heap.size W W') : ElK W' e := h.kept fun k _ _ _ hk => (hb.block k (lt_of_block hk)).trans hk

/-- What 'readList' holds between two rounds. -/
structure Rd (s body : ByteArray) (b : Nat) (w : World) (es : List El) (pre : List (Piece body)) (W : World) : Prop where
  r2 : W.heap[b]? = some (.cells #[.slice none 0 0] 22 (0, 0))
  r3 : W.heap[b + 1]? = some (.cells #[.bool false] 4 (0, 0))
  bx : ∃ ao c, W.heap[b + 2]? = some (.cells #[.slice ao es.length c] 22 (0, 0)) ∧ W.ownsRow (b + 3) 29 6 (.slice ao es.length c) es.length (es.flatMap El.cells)
  oks : ∀ e ∈ es, ElK W e
  few : es.length ≤ 100
  rd : ReadTo s (bytesOf pre) (es.map (·.a))
  len : es.length = pre.length
  below : Below b w W
  size : b + 3 ≤ W.heap.size
/-- What a round leaves that says no. -/
structure Rx (s body : ByteArray) (b : Nat) (w : World) (pre : List (Piece body)) (W : World) : Prop where
  r2 : W.heap[b]? = some (.cells #[.slice none 0 0] 22 (0, 0))
  r3 : W.heap[b + 1]? = some (.cells #[.bool false] 4 (0, 0))
  no : ∀ L, Good s L → ¬ bytesOf pre <+: piecesL L
  below : Below b w W
  size : b + 3 ≤ W.heap.size
section
variable {s body : ByteArray} {b : Nat} {w : World}
theorem turn_ne {X : World} {row : Option Nat} {B : Nat} (hr : ∀ r, row = some r → B ≤ r ∧ ∃ o : Obj, X.heap[r]? = some o ∧ orBook TurnE o) {k : Nat} {cs : Array Value} {t : TypeId} (hk : X.heap[k]? = some (.cells cs t (0, 0))) (ht : t ≠ 21 ∧ t ≠ 4) : some k ≠ row := by
  intro e
  obtain ⟨_, o, ho, h⟩ := hr k e.symm
  rw [hk] at ho
  cases ho
  rcases h with (h | ⟨n, h⟩ | ⟨v, h⟩) | ⟨r, h⟩ | ⟨d, h⟩
  · cases h
  · injection h with _ h; exact ht.1 h
  · injection h with _ h; exact ht.2 h
  · cases h
  · cases h
theorem rd_own (B : Nat) (hB : b + 3 ≤ B) : AbT (orBook TurnE) B (fun (pre : List (Piece body)) W => ∃ es, Rd s body b w es pre W) := by
  rintro pre X Y row ⟨es, h⟩ hg hr
  have low : ∀ {k : Nat} {o : Obj}, k < b + 3 → X.heap[k]? = some o → Y.heap[k]? = some o := fun hk ho => (hg.block _ (lt_of_block ho) (fun e => by have := (hr _ e.symm).1; omega)).trans ho
  have typ : ∀ {k : Nat} {cs : Array Value} {t : TypeId}, (t ≠ 21 ∧ t ≠ 4) → X.heap[k]? = some (.cells cs t (0, 0)) → Y.heap[k]? = some (.cells cs t (0, 0)) := fun ht hk => (hg.block _ (lt_of_block hk) (turn_ne hr hk ht)).trans hk
  refine ⟨es, low (by omega) h.r2, low (by omega) h.r3, ?_, fun e he => (h.oks e he).kept fun k cs t ht hk => typ (by rcases ht with rfl | rfl <;> exact ⟨by decide, by decide⟩) hk, h.few, h.rd, h.len, h.below.grown hg (by have := h.size; omega) (fun k e => by have := (hr k e).1; omega), Nat.le_trans h.size hg.size⟩
  obtain ⟨ao, c, hv, ho⟩ := h.bx
  refine ⟨ao, c, low (by omega) hv, ho.1, ?_⟩
  rcases ho.2 with h1 | ⟨g, cap, cur, h1, hb, hh, hx⟩
  · exact .inl h1
  · exact .inr ⟨g, cap, cur, h1, hb, typ ⟨by decide, by decide⟩ hh, hx⟩
theorem rx_own (B : Nat) (hB : b + 3 ≤ B) (c : Code) : AbT (orBook TurnE) B (fun (pre : List (Piece body)) W => c = .ret ∧ Rx s body b w pre W) := by
  rintro pre X Y row ⟨hc, h⟩ hg hr
  have low : ∀ {k : Nat} {o : Obj}, k < b + 3 → X.heap[k]? = some o → Y.heap[k]? = some o := fun hk ho => (hg.block _ (lt_of_block ho) (fun e => by have := (hr _ e.symm).1; omega)).trans ho
  exact ⟨hc, low (by omega) h.r2, low (by omega) h.r3, h.no, h.below.grown hg (by have := h.size; omega) (fun k e => by have := (hr k e).1; omega), Nat.le_trans h.size hg.size⟩
end

theorem two_cells {W : World} {b : Nat} {x y : Value} {T U : TypeId} (h2 : W.heap[b]? = some (.cells #[x] T (0, 0))) (h3 : W.heap[b + 1]? = some (.cells #[y] U (0, 0))) (u v : Value) :
    ((W.setCell ⟨b, 0, none⟩ u).setCell ⟨b + 1, 0, none⟩ v).heap[b]? = some (.cells #[u] T (0, 0)) ∧ ((W.setCell ⟨b, 0, none⟩ u).setCell ⟨b + 1, 0, none⟩ v).heap[b + 1]? = some (.cells #[v] U (0, 0)) :=
  ⟨(heap_setCell_other _ _ _ _ (by dsimp only; omega)).trans (heap_setCell_same _ _ 0 _ _ _ h2), heap_setCell_same _ _ 0 _ _ _ ((heap_setCell_other _ _ _ _ (by dsimp only; omega)).trans h3)⟩
theorem put_other {W : World} {D k : Nat} {d : Option (List Deferred)} {cs : Array Value} {t : TypeId} {fr : Nat × Nat} (hD : W.heap[D]? = some (.deferred d)) (hk : W.heap[k]? = some (.cells cs t fr)) (o : Obj) : (W.putObj D o).heap[k]? = some (.cells cs t fr) :=
  (World.putObj_heap_other (fun e => by subst e; rw [hD] at hk; cases hk)).trans hk
/-- A right attribute is told by its name and the string of its value. -/
theorem value_uniq {w : World} (hE : Env w) {a b : At} (ha : rightB a = true) (hb : rightB b = true) (wa : a.Wf) (wb : b.Wf) (hn : b.name = a.name) (hv : valueL b = valueL a) : b = a := by
  obtain ⟨e, w', fr, hR, _⟩ := kind_read (nm := a.name) (s := ⟨(valueL a).toArray⟩) (kindL_range (valueL a)) (by rw [mk_size]; have := value_len ha wa; omega) w hE []
  obtain ⟨_, x, v, ai, ci, ao, ct, ok, _, _, _, _, _, _, _, _, hcan⟩ := hR
  have h1 := (hcan a ha wa rfl (kind_value ha).symm rfl).1
  have h2 := (hcan b hb wb hn (by rw [← hv, kind_value hb]) hv).1
  exact h2.symm.trans h1
theorem Rd.later {s body : ByteArray} {b : Nat} {w : World} {es : List El} {pre : List (Piece body)} {W W' : World} (h : Rd s body b w es pre W) (hb : Below W.heap.size W W') : Rd s body b w es pre W' := by
  have low : ∀ {k : Nat} {o : Obj}, W.heap[k]? = some o → W'.heap[k]? = some o := fun ho => (hb.block _ (lt_of_block ho)).trans ho
  obtain ⟨ao, c, hv, ho⟩ := h.bx
  exact ⟨low h.r2, low h.r3, ⟨ao, c, low hv, own6_kept ho fun k _ hk => hb.block k hk⟩, fun e he => (h.oks e he).below hb, h.few, h.rd, h.len, h.below.trans (hb.mono (by have := h.size; omega)), Nat.le_trans h.size hb.size⟩
theorem Rd.stop {s body : ByteArray} {b : Nat} {w : World} {es : List El} {pre : List (Piece body)} {x : Piece body} {W : World} (h : Rd s body b w es pre W) (hno : ∀ L, Good s L → ¬ bytesOf (pre ++ [x]) <+: piecesL L) :
    Rx s body b w (pre ++ [x]) ((W.setCell ⟨b, 0, none⟩ (.slice none 0 0)).setCell ⟨b + 1, 0, none⟩ (.bool false)) :=
  ⟨(two_cells h.r2 h.r3 _ _).1, (two_cells h.r2 h.r3 _ _).2, hno, (h.below.setCell (Nat.le_refl _) _).setCell (Nat.le_succ _) _, by rw [setCell_size, setCell_size]; exact h.size⟩
theorem keepsO_below {W W' : World} (h : Below W.heap.size W W') : KeepsOthers W W' := ⟨h.size, fun k _ hk _ => (h.block k (lt_of_block hk)).trans hk⟩
theorem keepE_below {W W' : World} (h : Below W.heap.size W W') : KeepE W W' := ⟨h.size, fun k _ hk _ => (h.block k (lt_of_block hk)).trans hk⟩
theorem bytes_snoc {body : ByteArray} (pre : List (Piece body)) (x : Piece body) : bytesOf (pre ++ [x]) = bytesOf pre ++ [x.1.data.toList] := by
  unfold bytesOf
  rw [List.map_append]
  rfl
theorem keepE_more {W W' : World} {b : Nat} {cs : Array Value} (ho : KeepsOthers W W') (hk : KeepT W W') (hbx : W.heap[b]? = some (.cells cs 22 (0, 0))) (v : Value) : KeepE W (W'.setCell ⟨b, 0, none⟩ v) := by
  refine ⟨by rw [setCell_size]; exact ho.size, fun k o hko hor => ?_⟩
  have hne : k ≠ b := fun e => by
    subst e
    rw [hbx] at hko
    cases hko
    rcases hor with h | ⟨_, _, _, h, _, h2⟩
    · cases h
    · injection h with _ h; exact h2 h.symm
  refine (heap_setCell_other _ _ _ _ hne).trans ?_
  rcases hor with h | ⟨cs', t, fr, rfl, h1, _⟩
  · exact ho.same k o hko (Obj.not_cells_of_walk h)
  · exact hk k cs' t fr h1 hko
/-- One attribute more: what lies behind the round. -/
theorem Rd.more {s body : ByteArray} {b : Nat} {w : World} {es : List El} {pre : List (Piece body)} {x : Piece body} {W W' : World} {e : El} {ao' : Option Addr} {c' : Nat} (h : Rd s body b w es pre W) (he : ElK W e) (hlt : es.length < 100)
    (hrd : ReadTo s (bytesOf (pre ++ [x])) ((es ++ [e]).map (·.a))) (hown : W'.ownsRow (b + 3) 29 6 (.slice ao' (es ++ [e]).length c') (es ++ [e]).length ((es ++ [e]).flatMap El.cells)) (hb : Below (b + 3) W W') (hk : KeepT W W') :
    Rd s body b w (es ++ [e]) (pre ++ [x]) (W'.setCell ⟨b + 2, 0, none⟩ (.slice ao' (es.length + 1) c')) := by
  obtain ⟨ao, c, hv, _⟩ := h.bx
  have hv' : W'.heap[b + 2]? = some (.cells #[.slice ao es.length c] 22 (0, 0)) := (hb.block _ (by omega)).trans hv
  have low : ∀ {k : Nat} {o : Obj}, k < b + 2 → W.heap[k]? = some o → (W'.setCell ⟨b + 2, 0, none⟩ (.slice ao' (es.length + 1) c')).heap[k]? = some o := fun hk ho => (heap_setCell_other _ _ _ _ (by dsimp only; omega)).trans ((hb.block _ (by omega)).trans ho)
  refine ⟨low (by omega) h.r2, low (by omega) h.r3, ⟨ao', c', ?_, own6_kept hown fun k hk _ => heap_setCell_other _ _ _ _ (by dsimp only; omega)⟩, fun e' he' => ?_, by rw [List.length_append, List.length_singleton]; omega, hrd, by rw [List.length_append, List.length_append, h.len]; rfl,
    (h.below.trans (hb.mono (by omega))).setCell (by dsimp only; omega) _, by rw [setCell_size]; exact Nat.le_trans h.size hb.size⟩
  · refine (heap_setCell_same _ _ 0 _ _ _ hv').trans ?_
    rw [List.length_append, List.length_singleton]
    rfl
  · have hk' : ElK W e' := (List.mem_append.1 he').elim (h.oks e') (fun h => by rw [List.mem_singleton.1 h]; exact he)
    refine hk'.kept fun k cs t ht hkk => ?_
    have h1 := hk k cs t (0, 0) (by rcases ht with rfl | rfl <;> decide) hkk
    refine (heap_setCell_other _ _ _ _ (fun e => ?_)).trans h1
    subst e
    rw [hv'] at h1
    injection h1 with h1
    injection h1 with _ h1
    rcases ht with rfl | rfl <;> exact absurd h1 (by decide)
theorem load_list {W : World} {b : Nat} {v : Value} (h : W.cell? ⟨b, 0, none⟩ = some v) : (loadVar 22 ⟨b, 0, none⟩).run Tryz.prog W = .ok v W := by
  have hu := run_underlying (P := Tryz.prog) Tryz.underlying22 W
  simp [loadVar, isAgg, Sem.run_bind, Result.andThen, go_sem, hu, h]
theorem load_bool {W : World} {b : Nat} {v : Value} (h : W.cell? ⟨b, 0, none⟩ = some v) : (loadVar 4 ⟨b, 0, none⟩).run Tryz.prog W = .ok v W := by
  have hu := run_underlying (P := Tryz.prog) Tryz.underlying4 W
  simp [loadVar, isAgg, Sem.run_bind, Result.andThen, go_sem, hu, h]
theorem results_two {W : World} {tmps : Array Value} {b : Nat} {v u : Value} (h2 : W.heap[b]? = some (.cells #[v] 22 (0, 0))) (h3 : W.heap[b + 1]? = some (.cells #[u] 4 (0, 0)))
    (ht2 : tmps.getD 2 undef = .pointer (some ⟨b, 0, none⟩)) (ht3 : tmps.getD 3 undef = .pointer (some ⟨b + 1, 0, none⟩)) : (results Tryz.f64 tmps).run Tryz.prog W = .ok (.tuple #[v, u]) W := by
  have hl := load_list (cell_of_row W b 0 _ _ _ h2)
  have hl3 := load_bool (cell_of_row W (b + 1) 0 _ _ _ h3)
  rw [Array.getD_eq_getD_getElem?] at ht2 ht3
  simp only [results, show Tryz.f64.results = #[.cell 2 22, .cell 3 4] from rfl]
  simp [ht2, ht3, hl, hl3, asAddr, Result.andThen]

/-- A block of one cell that holds neither a string nor a number holds nothing of a list of attributes. -/
theorem cell_one_is {W : World} {b : Nat} {u : Value} {t : TypeId} {fr : Nat × Nat} (hb : W.heap[b]? = some (.cells #[u] t fr)) {x : Addr} {v : Value} (hx : W.cell? x = some v) (e : x.block = b) : v = u := by
  unfold World.cell? at hx
  rw [e, hb] at hx
  dsimp only at hx
  split at hx
  · cases hx
  · have hlt := (Array.getElem?_eq_some_iff.1 hx).1
    have h0 : x.off = 0 := by simpa using hlt
    rw [h0] at hx
    exact ((Option.some.inj hx).symm)
def Plain (v : Value) : Prop := (∃ s, v = .string s) ∨ ∃ q n, v = .int q n
theorem ListAt.upto {W W' : World} {so : Option Addr} {l : List At} (h : ListAt W so l) (hk : ∀ (x : Addr) (v : Value), W.cell? x = some v → Plain v → W'.heap[x.block]? = W.heap[x.block]?) : ListAt W' so l := by
  rcases h with h0 | ⟨bk, o, rfl, hc⟩
  · exact .inl h0
  · refine .inr ⟨bk, o, rfl, fun j hj => ?_⟩
    obtain ⟨ai, ci, ao, ct, h⟩ := hc j hj
    have hbk : W'.heap[bk]? = W.heap[bk]? := hk _ _ h.c0 (.inl ⟨_, rfl⟩)
    have hcl : ∀ {p : Nat} {v : Value}, W.cell? ⟨bk, p, none⟩ = some v → W'.cell? ⟨bk, p, none⟩ = some v := fun hv => cell_block hv hbk
    refine ⟨ai, ci, ao, ct, ⟨hcl h.c0, hcl h.c1, hcl h.c2, hcl h.c3, hcl h.c4, hcl h.c5, ?_, ?_, h.icap, h.tcap, h.wf⟩⟩
    · rcases h.ints with h0 | ⟨a, ha, hz⟩
      · exact .inl h0
      · exact .inr ⟨a, ha, fun j hj => cell_block (hz j hj) (hk _ _ (hz j hj) (.inr ⟨_, _, rfl⟩))⟩
    · rcases h.texts with h0 | ⟨a, ha, hz⟩
      · exact .inl h0
      · exact .inr ⟨a, ha, fun j hj => cell_block (hz j hj) (hk _ _ (hz j hj) (.inl ⟨_, rfl⟩))⟩
/-- The two results are written, and the loop's mark is taken: a list lies as it lay. -/
theorem ListAt.ended {W : World} {so : Option Addr} {l : List At} {b D : Nat} {y : Bool} {ao : Option Addr} {n c : Nat} {T U : TypeId} {d : Option (List Deferred)} (h : ListAt W so l) (h2 : W.heap[b]? = some (.cells #[.slice ao n c] T (0, 0))) (h3 : W.heap[b + 1]? = some (.cells #[.bool y] U (0, 0)))
    (hD : W.heap[D]? = some (.deferred d)) (u v : Value) (o : Obj) : ListAt (((W.setCell ⟨b, 0, none⟩ u).setCell ⟨b + 1, 0, none⟩ v).putObj D o) so l := by
  refine h.upto fun a z hz hp => ?_
  have n2 : a.block ≠ b := fun e => by
    have := cell_one_is h2 hz e
    subst this
    rcases hp with ⟨_, h⟩ | ⟨_, _, h⟩ <;> cases h
  have n3 : a.block ≠ b + 1 := fun e => by
    have := cell_one_is h3 hz e
    subst this
    rcases hp with ⟨_, h⟩ | ⟨_, _, h⟩ <;> cases h
  have nD : a.block ≠ D := fun e => by
    unfold World.cell? at hz
    rw [e, hD] at hz
    cases hz
  exact (World.putObj_heap_other nD).trans ((heap_setCell_other _ _ _ _ n3).trans (heap_setCell_other _ _ _ _ n2))
/-- What 'readList' answers. -/
def RlPost (s : ByteArray) (w : World) (e : Ending) (w' : World) : Prop := Below w.heap.size w w' ∧
  ((∃ (L : List At) (ao : Option Addr) (c : Nat), e = .returned (.tuple #[.slice ao L.length c, .bool true]) ∧ ListAt w' ao L ∧ L.length ≤ c ∧ rightL L = true ∧ listL L = s.data.toList ∧ ∀ L', Good s L' → L = L') ∨
   (e = .returned (.tuple #[.slice none 0 0, .bool false]) ∧ ∀ L, ¬ Good s L))

set_option maxHeartbeats 4000000 in
set_option maxRecDepth 100000 in
theorem readList_any (s : ByteArray) (hs : s.size < 4294967281) (w : World) (hE : Env w) : Calls Tryz.prog 64 #[.string s] w (RlPost s w) := by
  have HE := Lib.hid hE
  clear hE
  refine (callsIn_wide (n := 3)).1 ?_
  refine callsIn_of_wp_marks Tryz.func64 rfl trivial ?_ rfl
  simp only [Tryz.ntmps64, List.size_toArray, List.length_cons, List.length_nil, Nat.reduceAdd, Nat.reduceSub, Array.replicate_succ, Array.replicate_zero, List.push_toArray, List.append_toArray, List.nil_append, List.cons_append]
  gi_upto_region 1 with fail
  obtain ⟨b, hb⟩ : ∃ b, b = w.heap.size := ⟨_, rfl⟩
  obtain ⟨W0, hW0⟩ : ∃ W0, W0 = (w.alloc (.cells #[.slice none 0 0] 22)).alloc (.cells #[.bool false] 4) := ⟨_, rfl⟩
  have R2 : Hid (W0.heap[b]? = some (.cells #[.slice none 0 0] 22 (0, 0))) := by
    show W0.heap[b]? = _
    rw [hW0, hb]
    exact (Below.heap_alloc _ _ _ (by simp)).trans (heap_alloc_new _ _)
  have R3 : Hid (W0.heap[b + 1]? = some (.cells #[.bool false] 4 (0, 0))) := by
    have := heap_alloc_new (w.alloc (.cells #[.slice none 0 0] 22)) (.cells #[.bool false] 4)
    show W0.heap[b + 1]? = _
    rw [hW0, hb]
    simpa using this
  have B0 : Hid (Below b w W0) := by
    show Below b w W0
    rw [hW0, hb]
    exact ((Below.refl _ w).alloc (Nat.le_refl _) _).alloc (by simp) _
  have S0 : Hid (W0.heap.size = b + 2) := by
    show W0.heap.size = _
    rw [hW0, hb]
    simp
  have HSB := Lib.hid hb
  rw [← hW0, ← hb]
  clear hW0 hb
  have c2 : W0.cell? ⟨b, 0, none⟩ = some (.slice none 0 0) := cell_of_row W0 b 0 _ _ _ R2.out
  have c3 : W0.cell? ⟨b + 1, 0, none⟩ = some (.bool false) := cell_of_row W0 (b + 1) 0 _ _ _ R3.out
  have f2 : W0.frozen? ⟨b, 0, none⟩ = false := row_free R2.out 0
  have f3 : W0.frozen? ⟨b + 1, 0, none⟩ = false := row_free R3.out 0
  by_cases hs0 : s = ⟨#[]⟩
  · subst hs0
    gi_wp2_with fail
    obtain ⟨h2, h3⟩ := two_cells R2.out R3.out (.slice none 0 0) (.bool true)
    refine ⟨_, results_two (tmps := Act.tmps _) h2 h3 rfl rfl, ?_⟩
    exact ⟨by rw [← HSB.out]; exact (B0.out.setCell (Nat.le_refl _) _).setCell (Nat.le_succ _) _, .inl ⟨[], none, 0, rfl, .inl rfl, Nat.le_refl _, by decide, rfl, fun L' hg => by
      have ht := hg.text
      unfold listL at ht
      split at ht
      · rename_i h; exact h.symm
      · cases ht⟩⟩
  · have hem : s.toList.isEmpty = false := by
      rw [ByteArray.toList_eq]
      cases h : s.data.toList with
      | nil => exact absurd (bytes_inj (a := s) (b := ⟨#[]⟩) h) hs0
      | cons x l => rfl
    gi_wp2_with fail
    refine ⟨trivial, callsIn_wide.2 ((inside_any s ⟨#[123]⟩ ⟨#[125]⟩ (by omega) _).mono ?_)⟩
    rintro e w1 ⟨body, ok, rfl, hbs, hin, rfl⟩
    have HIN := Lib.hid hin
    have HS0 := Lib.hid hs0
    clear hin hs0
    cases ok with
    | false =>
      gi_wp2_with fail
      obtain ⟨h2, h3⟩ := two_cells R2.out R3.out (.slice none 0 0) (.bool false)
      refine ⟨_, results_two (tmps := Act.tmps _) h2 h3 rfl rfl, ?_⟩
      exact ⟨by rw [← HSB.out]; exact (B0.out.setCell (Nat.le_refl _) _).setCell (Nat.le_succ _) _, .inr ⟨rfl, fun L hg => by
        have h1 := (HIN.out _ (hg.body HS0.out).2).2
        cases h1⟩⟩
    | true =>
      have HBX := Lib.hid (show (W0.alloc (.cells #[.slice none 0 0] 22)).heap[b + 2]? = some (.cells #[.slice none 0 0] 22 (0, 0)) from by
        have := heap_alloc_new W0 (.cells #[.slice none 0 0] 22)
        rw [S0.out] at this
        exact this)
      have R21 := Lib.hid ((Below.heap_alloc W0 (.cells #[.slice none 0 0] 22) _ (lt_of_block R2.out)).trans R2.out)
      have R31 := Lib.hid ((Below.heap_alloc W0 (.cells #[.slice none 0 0] 22) _ (lt_of_block R3.out)).trans R3.out)
      have B1 := Lib.hid (B0.out.alloc (by have := S0.out; omega) (.cells #[.slice none 0 0] 22))
      have S1 := Lib.hid (show (W0.alloc (.cells #[.slice none 0 0] 22)).heap.size = b + 3 from by simp [S0.out])
      clear c2 c3 f2 f3
      gi_wp2_with fail
      rw [S0.out]
      generalize W0.alloc (.cells #[.slice none 0 0] 22) = W1 at HBX R21 R31 B1 S1 ⊢
      refine ⟨trivial, callsIn_wide.2 ((items_any body W1).mono ?_)⟩
      rintro e w2 ⟨S, rfl, hS, hb2⟩
      have HS2 := Lib.hid hS
      have HRD := Lib.hid (show Rd s body b w [] [] w2 from ⟨(hb2.block _ (lt_of_block R21.out)).trans R21.out, (hb2.block _ (lt_of_block R31.out)).trans R31.out, ⟨none, 0, (hb2.block _ (lt_of_block HBX.out)).trans HBX.out, World.ownsRow_nil _ _ _ _⟩, (fun e he => by cases he), Nat.zero_le _, readTo_nil s, rfl, B1.out.trans (hb2.mono (by have := S1.out; omega)), by have h1 := S1.out; have h2 := hb2.size; omega⟩)
      clear hS hb2 R2 R3 R21 R31 B0 B1 HBX S0 S1
      gi_wp2_with fail
      have HEB := Lib.hid (show ∀ X, Below b w X → Env X from fun X h => HE.out.below (by rw [← HSB.out]; exact h))
      have hbs2 := Lib.hid (show body.size < 4294967281 from by omega)
      have HCAN := Lib.hid (show ∀ L, Good s L → Canon body.data.toList (piecesL L) from fun L hg => by
        rw [(HIN.out _ (hg.body HS0.out).2).1]
        exact canon_body (hg.body HS0.out).1 (rightL_all hg.right))
      refine wpIn_range_T rfl (by omega) (gf := 114) (lb := #[.pointer (some ⟨S, 0, none⟩)]) rfl trivial (enters_of Tryz.func114 (by kernel_rfl) rfl)
        (items_seq 2 (by omega) S body (by omega) w2 HS2.out) (fun r h => by rcases h with h | ⟨n, h⟩ | ⟨v, h⟩ <;> cases h) (fun d h => by rcases h with h | ⟨n, h⟩ | ⟨v, h⟩ <;> cases h) (fun h h' => h.trans h')
        (fun W l r r' hl => ⟨by simp, fun k o hk ho => (World.putObj_heap_other (fun e => by
          subst e
          rw [hl] at hk
          cases hk
          rcases ho with ho | ⟨cs, t, fr, ho, _⟩ <;> cases ho)).trans hk⟩)
        (Below.refl _ _) (fun _ => rfl) (fun pre W => ∃ es, Rd s body b w es pre W) (fun c pre W => c = .ret ∧ Rx s body b w pre W) (rd_own _ HRD.out.size) (fun c => rx_own _ HRD.out.size c) ⟨[], HRD.out⟩ ?a1 ?assign ?body ?done ?stop
      case assign =>
        intro l x W K hK
        gi_wp2_with fail
        exact hK
      case body =>
        rintro l pre x W ⟨es, hI⟩ hlt
        have HI := Lib.hid hI
        clear hI HRD
        gi_wp2_with fail
        refine ⟨trivial, (CallsIn.inRound l (callsIn_wide.2 (trim1_some x.1 W))).mono ?_⟩
        rintro e w3 ⟨t, rfl, ht, hts, rfl⟩
        have hxs := x.2
        gi_wp2_with fail
        refine ⟨trivial, (CallsIn.inRound l (callsIn_wide.2 (cut3_some t (by have := hbs2.out; omega) W (HEB.out W HI.out.below)))).mono ?_⟩
        rintro e w4 ⟨nm, v, okc, rfl, hnm, hv, hvs, hb4⟩
        have HNM := Lib.hid (show nm.data.toList = (Lib.cut (Lib.trimPrefix x.1.data.toList [32]) [32, 61, 32]).1 from by rw [hnm.out, ht.out])
        have HV := Lib.hid (show v.data.toList = (Lib.cut (Lib.trimPrefix x.1.data.toList [32]) [32, 61, 32]).2.1 from by rw [hv.out, ht.out])
        have HB4 := Lib.hid hb4
        have hvs2 := Lib.hid (show v.size < 4294967281 from by have := hbs2.out; omega)
        clear hnm hv ht hb4 hts hxs hvs
        gi_wp2_with fail
        refine ⟨trivial, (CallsIn.inRound l (callsIn_wide.2 (readAttribute_any nm v hvs2.out w4 (HEB.out w4 (HI.out.later HB4.out).below)))).mono ?_⟩
        rintro e w5 ⟨hb5, (⟨a, va, ai, ci, ao, ct, rfl, hat, hn1, hn2, hli, hty, hna, hrt, hvl⟩ | ⟨rfl, hno⟩)⟩
        · obtain rfl := hat.val
          have HB5 := Lib.hid (HB4.out.trans (hb5.mono HB4.out.size))
          have HB6 := Lib.hid (HB5.out.trans ((alloc_below w5 (.cells #[.string a.name, .int .i64 a.kind, .int .i64 a.num, .string a.text, .slice ai a.ints.length ci, .slice ao a.texts.length ct] 74)).mono HB5.out.size))
          have HI6 := Lib.hid (HI.out.later HB6.out)
          have HEL := Lib.hid (show ElK (w5.alloc (.cells #[.string a.name, .int .i64 a.kind, .int .i64 a.num, .string a.text, .slice ai a.ints.length ci, .slice ao a.texts.length ct] 74)) ⟨a, ai, ci, ao, ct⟩ from ElK.below ⟨⟨hat.ints, hat.texts, hat.icap, hat.tcap, hat.wf⟩, hli, hty⟩ (alloc_below w5 _))
          have HT := Lib.hid (heap_alloc_new w5 (.cells #[.string a.name, .int .i64 a.kind, .int .i64 a.num, .string a.text, .slice ai a.ints.length ci, .slice ao a.texts.length ct] 74))
          have HRT := Lib.hid hrt
          have HVL := Lib.hid (And.intro hna hvl)
          have HWF := Lib.hid hat.wf
          clear hb5 hat hn1 hn2 hli hty hrt hvl hna HB4 HB5
          gi_upto_region 11 with fail
          generalize w5.alloc (.cells #[.string a.name, .int .i64 a.kind, .int .i64 a.num, .string a.text, .slice ai a.ints.length ci, .slice ao a.texts.length ct] 74) = W6 at HB6 HI6 HEL HT ⊢
          generalize w5.heap.size = D at HT ⊢
          obtain ⟨bo, bc, hbx, hown⟩ := HI6.out.bx
          have HOWN := Lib.hid hown
          have HBX := Lib.hid hbx
          have cbx : W6.cell? ⟨b + 2, 0, none⟩ = some (.slice bo es.length bc) := cell_of_row W6 (b + 2) 0 _ _ _ hbx
          clear hown hbx
          by_cases hfull : es.length = 100
          · have hfi : (es.length : Int) = 100 := by omega
            have HNO := Lib.hid (readTo_many (s := s) (pcs := bytesOf pre) (p := x.1.data.toList) (by unfold bytesOf; rw [List.length_map, ← HI6.out.len]; omega))
            have d2 : W6.cell? ⟨b, 0, none⟩ = some (.slice none 0 0) := cell_of_row W6 b 0 _ _ _ HI6.out.r2
            have d3 : W6.cell? ⟨b + 1, 0, none⟩ = some (.bool false) := cell_of_row W6 (b + 1) 0 _ _ _ HI6.out.r3
            have g2 : W6.frozen? ⟨b, 0, none⟩ = false := row_free HI6.out.r2 0
            have g3 : W6.frozen? ⟨b + 1, 0, none⟩ = false := row_free HI6.out.r3 0
            gi_wp2_with fail
            exact ⟨((keepsO_below HB6.out).trans ((KeepsOthers.setCell _ _ _).trans (KeepsOthers.setCell _ _ _))).from _, rfl, HI6.out.stop (by rw [bytes_snoc]; exact HNO.out)⟩
          · have hfi : ¬ (es.length : Int) = 100 := by omega
            obtain ⟨z0, z1, z2, z3, z4, z5, zf⟩ := cells6 HT.out
            have HLT : Hid (es.length < 100) := by have := HI6.out.few; show _ < _; omega
            have HS6 := Lib.hid HI6.out.size
            have H3 : es.length ≤ 2000 := by have := HLT.out; omega
            gi_wp2_with (gi_at_builtin; refine wpIn_append_el (e := ⟨a, ai, ci, ao, ct⟩) rfl _ _ rfl HOWN.out HS6.out H3 rfl rfl ?_; intro ao' c' w7 hown hbel hko; have HOWN7 := Lib.hid hown; have HBEL := Lib.hid hbel; have HK := Lib.hid hko; have HBX7 := Lib.hid ((hbel.block (b + 2) (by omega)).trans HBX.out); have hf7 : w7.frozen? ⟨b + 2, 0, none⟩ = false := row_free HBX7.out 0; have hc7 : w7.cell? ⟨b + 2, 0, none⟩ = some (.slice bo es.length bc) := cell_of_row w7 (b + 2) 0 _ _ _ HBX7.out; clear hown hbel hko)
            refine ⟨((keepsO_below HB6.out).trans (HK.out.1.trans (KeepsOthers.setCell _ _ _))).from _, (keepE_below HB6.out).trans (keepE_more HK.out.1 HK.out.2 HBX.out _), es ++ [⟨a, ai, ci, ao, ct⟩], HI6.out.more HEL.out HLT.out ?_ HOWN7.out HBEL.out HK.out.2⟩
            rw [bytes_snoc, List.map_append]
            exact HI6.out.rd.next (by rw [← HNM.out, HVL.out.1]) (by rw [← HV.out, HVL.out.2]) fun b' hb' wb' hn' hv' => value_uniq (HEB.out W6 HI6.out.below) HRT.out hb' HWF.out wb' hn' hv'
        · have HB5 := Lib.hid (HB4.out.trans (hb5.mono HB4.out.size))
          have HNO := Lib.hid (readTo_fails (s := s) (pcs := bytesOf pre) (p := x.1.data.toList) HNM.out (fun b hb hw hn => by rw [← HV.out]; exact hno b hb hw hn))
          clear hb5 hno HB4
          have HB6 := Lib.hid (HB5.out.trans ((alloc_below w5 (.cells #[.string ⟨#[]⟩, .int .i64 0, .int .i64 0, .string ⟨#[]⟩, .slice none 0 0, .slice none 0 0] 74)).mono HB5.out.size))
          have HI6 := Lib.hid (HI.out.later HB6.out)
          clear HB5
          gi_upto_region 11 with fail
          generalize w5.alloc (.cells #[.string ⟨#[]⟩, .int .i64 0, .int .i64 0, .string ⟨#[]⟩, .slice none 0 0, .slice none 0 0] 74) = W6 at HB6 HI6 ⊢
          have d2 : W6.cell? ⟨b, 0, none⟩ = some (.slice none 0 0) := cell_of_row W6 b 0 _ _ _ HI6.out.r2
          have d3 : W6.cell? ⟨b + 1, 0, none⟩ = some (.bool false) := cell_of_row W6 (b + 1) 0 _ _ _ HI6.out.r3
          have g2 : W6.frozen? ⟨b, 0, none⟩ = false := row_free HI6.out.r2 0
          have g3 : W6.frozen? ⟨b + 1, 0, none⟩ = false := row_free HI6.out.r3 0
          gi_wp2_with fail
          exact ⟨((keepsO_below HB6.out).trans ((KeepsOthers.setCell _ _ _).trans (KeepsOthers.setCell _ _ _))).from _, rfl, HI6.out.stop (by rw [bytes_snoc]; exact HNO.out)⟩
      case done =>
        rintro Df ys W hD hys ⟨es, hI⟩ hK
        obtain ⟨ao, c, hbx, hown⟩ := hI.bx
        obtain ⟨hzl, hcap⟩ := list_of_own hown rfl (fun e he => (hI.oks e he).ok)
        have hlen : es.length = (es.map (·.a)).length := (List.length_map _).symm
        have hfin : ∀ L, Good s L → es.map (·.a) = L := fun L hg => by
          have hy := hys _ (HCAN.out L hg)
          have h1 := hI.rd L hg (by rw [hy]; exact List.prefix_refl _)
          rw [h1, hy, pieces_length, List.take_length]
        have hfew : (es.map (·.a)).length ≤ 100 := by rw [← hlen]; exact hI.few
        rw [hlen] at hbx hcap
        have HFIN := Lib.hid hfin
        have HZL := Lib.hid hzl
        have HCAP := Lib.hid hcap
        have HBX := Lib.hid hbx
        have HBEL := Lib.hid hI.below
        have HR2 := Lib.hid hI.r2
        have HR3 := Lib.hid hI.r3
        have HK := Lib.hid hK
        have hDf : w.heap.size ≤ Df := by have := HRD.out.size; have := HSB.out; omega
        have HSZ := Lib.hid hI.size
        clear hown hzl hcap hbx hfin hlen hI hK hys
        generalize es.map (·.a) = zs at HFIN HZL HCAP HBX hfew
        have cbx : W.cell? ⟨b + 2, 0, none⟩ = some (.slice ao zs.length c) := cell_of_row W (b + 2) 0 _ _ _ HBX.out
        gi_wp2_with fail
        refine ⟨trivial, callsIn_wide.2 ((isRightList_any ao zs c (by omega) W HZL.out (HEB.out W HBEL.out)).mono ?_)⟩
        rintro e w5 ⟨rfl, hb5⟩
        have HB5 := Lib.hid hb5
        clear hb5 cbx
        have R25 := Lib.hid ((HB5.out.block _ (lt_of_block HR2.out)).trans HR2.out)
        have R35 := Lib.hid ((HB5.out.block _ (lt_of_block HR3.out)).trans HR3.out)
        have K5 := Lib.hid ((HB5.out.block _ (lt_of_block HK.out)).trans HK.out)
        have BX5 := Lib.hid ((HB5.out.block _ (lt_of_block HBX.out)).trans HBX.out)
        have BB5 := Lib.hid (HBEL.out.trans (HB5.out.mono (by have := HSZ.out; omega)))
        cases hr : rightL zs with
        | false =>
          have d2 : w5.cell? ⟨b, 0, none⟩ = some (.slice none 0 0) := cell_of_row w5 b 0 _ _ _ R25.out
          have d3 : w5.cell? ⟨b + 1, 0, none⟩ = some (.bool false) := cell_of_row w5 (b + 1) 0 _ _ _ R35.out
          have g2 : w5.frozen? ⟨b, 0, none⟩ = false := row_free R25.out 0
          have g3 : w5.frozen? ⟨b + 1, 0, none⟩ = false := row_free R35.out 0
          have HNO := Lib.hid (show ∀ L, ¬ Good s L from fun L hg => by
            have h1 := hg.right
            rw [← HFIN.out L hg, hr] at h1
            cases h1)
          gi_wp2_with fail
          refine ⟨trivial, ?_⟩
          gi_wp2_with fail
          obtain ⟨h2, h3⟩ := two_cells R25.out R35.out (.slice none 0 0) (.bool false)
          have hk' : ((w5.setCell ⟨b, 0, none⟩ (.slice none 0 0)).setCell ⟨b + 1, 0, none⟩ (.bool false)).heap[Df]? = some (.deferred (some [])) := ((KeepsOthers.setCell _ _ _).trans (KeepsOthers.setCell _ _ _)).same _ _ K5.out rfl
          refine ⟨by simp, .inl ⟨_, _, rfl, run_takeDeferred hk', ?_⟩⟩
          refine ⟨_, results_two (b := b) (put_other hk' h2 _) (put_other hk' h3 _) rfl rfl, ?_⟩
          have hbb : Below b w ((w5.setCell ⟨b, 0, none⟩ (.slice none 0 0)).setCell ⟨b + 1, 0, none⟩ (.bool false)) := (BB5.out.setCell (Nat.le_refl _) _).setCell (Nat.le_succ _) _
          have hbb' : Below w.heap.size w ((w5.setCell ⟨b, 0, none⟩ (.slice none 0 0)).setCell ⟨b + 1, 0, none⟩ (.bool false)) := by rw [← HSB.out]; exact hbb
          exact ⟨hbb'.trans (belowK_b (w := w) (Nat.le_refl _) _ Df _ _ hDf hk' rfl rfl), .inr ⟨rfl, HNO.out⟩⟩
        | true =>
          have c5 : w5.cell? ⟨b + 2, 0, none⟩ = some (.slice ao zs.length c) := cell_of_row w5 (b + 2) 0 _ _ _ BX5.out
          gi_wp2_with fail
          refine ⟨trivial, callsIn_wide.2 ((listText_any ao zs c hr w5 (HZL.out.below HB5.out) (HEB.out w5 BB5.out)).mono ?_)⟩
          rintro e w6 ⟨rfl, hb6⟩
          have HB6 := Lib.hid hb6
          clear hb6 c5
          have R26 := Lib.hid ((HB6.out.block _ (lt_of_block R25.out)).trans R25.out)
          have R36 := Lib.hid ((HB6.out.block _ (lt_of_block R35.out)).trans R35.out)
          have K6 := Lib.hid ((HB6.out.block _ (lt_of_block K5.out)).trans K5.out)
          have BX6 := Lib.hid ((HB6.out.block _ (lt_of_block BX5.out)).trans BX5.out)
          have BB6 := Lib.hid (BB5.out.trans (HB6.out.mono (by have := HSZ.out; have := HB5.out.size; omega)))
          have ZL6 := Lib.hid ((HZL.out.below HB5.out).below HB6.out)
          have HR := Lib.hid hr
          obtain ⟨V, hV⟩ : ∃ V : ByteArray, V = ⟨(listL zs).toArray⟩ := ⟨_, rfl⟩
          rw [← hV]
          have HV := Lib.hid (show V.data.toList = listL zs from by rw [hV])
          clear hV hr R25 R35 K5 BX5 BB5 HB5 HB6
          have d2 : w6.cell? ⟨b, 0, none⟩ = some (.slice none 0 0) := cell_of_row w6 b 0 _ _ _ R26.out
          have d3 : w6.cell? ⟨b + 1, 0, none⟩ = some (.bool false) := cell_of_row w6 (b + 1) 0 _ _ _ R36.out
          have g2 : w6.frozen? ⟨b, 0, none⟩ = false := row_free R26.out 0
          have g3 : w6.frozen? ⟨b + 1, 0, none⟩ = false := row_free R36.out 0
          have c6 : w6.cell? ⟨b + 2, 0, none⟩ = some (.slice ao zs.length c) := cell_of_row w6 (b + 2) 0 _ _ _ BX6.out
          by_cases heq : V.data.toList = s.data.toList
          · have HEQ := Lib.hid heq
            have he : V.toList = s.toList := by rw [ByteArray.toList_eq, ByteArray.toList_eq, heq]
            gi_wp2_with fail
            obtain ⟨h2, h3⟩ := two_cells R26.out R36.out (.slice ao zs.length c) (.bool true)
            have hk' : ((w6.setCell ⟨b, 0, none⟩ (.slice ao zs.length c)).setCell ⟨b + 1, 0, none⟩ (.bool true)).heap[Df]? = some (.deferred (some [])) := ((KeepsOthers.setCell _ _ _).trans (KeepsOthers.setCell _ _ _)).same _ _ K6.out rfl
            refine ⟨by simp, .inl ⟨_, _, rfl, run_takeDeferred hk', ?_⟩⟩
            refine ⟨_, results_two (b := b) (put_other hk' h2 _) (put_other hk' h3 _) rfl rfl, ?_⟩
            have hbb : Below b w ((w6.setCell ⟨b, 0, none⟩ (.slice ao zs.length c)).setCell ⟨b + 1, 0, none⟩ (.bool true)) := (BB6.out.setCell (Nat.le_refl _) _).setCell (Nat.le_succ _) _
            have hbb' : Below w.heap.size w ((w6.setCell ⟨b, 0, none⟩ (.slice ao zs.length c)).setCell ⟨b + 1, 0, none⟩ (.bool true)) := by rw [← HSB.out]; exact hbb
            exact ⟨hbb'.trans (belowK_b (w := w) (Nat.le_refl _) _ Df _ _ hDf hk' rfl rfl), .inl ⟨zs, ao, c, rfl, ZL6.out.ended R26.out R36.out K6.out _ _ _, HCAP.out, HR.out, by rw [← HV.out, HEQ.out], HFIN.out⟩⟩
          · have HNO := Lib.hid (show ∀ L, ¬ Good s L from fun L hg => heq (by rw [HV.out, HFIN.out L hg, hg.text]))
            have he : ¬ V.toList = s.toList := by rw [ByteArray.toList_eq, ByteArray.toList_eq]; exact heq
            have he' : (V.toList == s.toList) = false := by simpa using he
            clear heq
            gi_wp2_with fail
            obtain ⟨h2, h3⟩ := two_cells R26.out R36.out (.slice none 0 0) (.bool false)
            have hk' : ((w6.setCell ⟨b, 0, none⟩ (.slice none 0 0)).setCell ⟨b + 1, 0, none⟩ (.bool false)).heap[Df]? = some (.deferred (some [])) := ((KeepsOthers.setCell _ _ _).trans (KeepsOthers.setCell _ _ _)).same _ _ K6.out rfl
            refine ⟨by simp, .inl ⟨_, _, rfl, run_takeDeferred hk', ?_⟩⟩
            refine ⟨_, results_two (b := b) (put_other hk' h2 _) (put_other hk' h3 _) rfl rfl, ?_⟩
            have hbb : Below b w ((w6.setCell ⟨b, 0, none⟩ (.slice none 0 0)).setCell ⟨b + 1, 0, none⟩ (.bool false)) := (BB6.out.setCell (Nat.le_refl _) _).setCell (Nat.le_succ _) _
            have hbb' : Below w.heap.size w ((w6.setCell ⟨b, 0, none⟩ (.slice none 0 0)).setCell ⟨b + 1, 0, none⟩ (.bool false)) := by rw [← HSB.out]; exact hbb
            exact ⟨hbb'.trans (belowK_b (w := w) (Nat.le_refl _) _ Df _ _ hDf hk' rfl rfl), .inr ⟨rfl, HNO.out⟩⟩
      case stop =>
        rintro Df c pre W hD hpre ⟨rfl, hI⟩ hK
        have HK := Lib.hid hK
        have HI := Lib.hid hI
        have hDf : w.heap.size ≤ Df := by have := HRD.out.size; have := HSB.out; omega
        have hbw : Below w.heap.size w W := by rw [← HSB.out]; exact hI.below
        have HBW := Lib.hid hbw
        clear hK hI hbw
        gi_wp2_with fail
        refine ⟨by simp, .inl ⟨_, _, rfl, run_takeDeferred HK.out, ?_⟩⟩
        refine ⟨_, results_two (b := b) (put_other HK.out HI.out.r2 _) (put_other HK.out HI.out.r3 _) rfl rfl, ?_⟩
        exact ⟨HBW.out.trans (belowK_b (w := w) (Nat.le_refl _) W Df _ _ hDf HK.out rfl rfl), .inr ⟨rfl, fun L hg => HI.out.no L hg (hpre _ (HCAN.out L hg))⟩⟩

/-- What 'Parse' answers. -/
def ParPost (s : ByteArray) (w : World) (e : Ending) (w' : World) : Prop := Below w.heap.size w w' ∧
  ((∃ (L : List At) (ao : Option Addr) (c : Nat), e = .returned (.tuple #[.slice ao L.length c, .int .i64 0]) ∧ ListAt w' ao L ∧ L.length ≤ c ∧ rightL L = true ∧ listL L = s.data.toList ∧ ∀ L', Good s L' → L = L') ∨
   (e = .returned (.tuple #[.slice none 0 0, .int .i64 70]) ∧ ∀ L, ¬ Good s L))
set_option maxHeartbeats 1000000 in
set_option maxRecDepth 100000 in
theorem Parse_any (s : ByteArray) (hs : s.size < 4294967281) (w : World) (hE : Env w) : Calls Tryz.prog 35 #[.string s] w (ParPost s w) := by
  go_enter Tryz.func35, Tryz.ntmps35
  go_wp2_with fail
  refine (readList_any s hs w hE).mono ?_
  rintro e w1 ⟨hb, (⟨L, ao, c, rfl, hl, hc, hr, ht, hu⟩ | ⟨rfl, hno⟩)⟩
  · have HB := Lib.hid hb
    have HL := Lib.hid hl
    have HC := Lib.hid (And.intro hc (And.intro hr (And.intro ht hu)))
    clear hb hl hc hr ht hu
    go_wp2_with fail
    go_ret2
    exact ⟨HB.out, .inl ⟨L, ao, c, rfl, HL.out, HC.out.1, HC.out.2.1, HC.out.2.2.1, HC.out.2.2.2⟩⟩
  · have HB := Lib.hid hb
    have HN := Lib.hid hno
    clear hb hno
    go_wp2_with fail
    go_ret2
    exact ⟨HB.out, .inr ⟨rfl, HN.out⟩⟩
end Go.Proofs.YtiofnjnaleglgaaGreatDoor

