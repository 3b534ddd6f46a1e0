/-
  Texts of mine in one file: KAtPX, KAtAQ, KAtPZ, KAtPY, KAtPV.
-/
import Derived.Test.YtiofnjnaleglgaaGreatDoorQE
import Derived.Test.YtiofnjnaleglgaaGreatDoorG38
import Derived.Test.YtiofnjnaleglgaaGreatDoorHAtAP
import Derived.Test.YtiofnjnaleglgaaGreatDoorG30
import Derived.Test.YtiofnjnaleglgaaGreatDoorHAtRR
/-
  What the reference's 'Parse' has read and what remains, as plain facts.
-/
namespace Go.Proofs.YtiofnjnaleglgaaGreatDoor
open Go.RowKit

/-- Whatever right list the whole string is of: zs is its front, and l is the string of the rest, with the closing bracket. -/
def RestOf (whole : ByteArray) (zs : List At) (l : List UInt8) : Prop := ∀ L, Good whole L → zs.length < L.length ∧ zs = L.take zs.length ∧ l = Lib.join ((L.drop zs.length).map itemL) gap ++ [125]
theorem RestOf.start {whole : ByteArray} {l : List UInt8} (h : whole.data.toList = 123 :: l) : RestOf whole [] l := by
  intro L hG
  have hne : whole ≠ ⟨#[]⟩ := fun e => by rw [e] at h; cases h
  obtain ⟨h1, h2⟩ := hG.body hne
  rw [h] at h2
  injection h2 with _ h2
  exact ⟨List.length_pos_iff.2 h1, rfl, h2⟩
theorem good_brace {whole : ByteArray} {L : List At} (h : Good whole L) (hne : whole ≠ ⟨#[]⟩) : whole.data.toList[0]? = some 123 := by rw [(h.body hne).2]; rfl
/-- The item at the front of the rest. -/
structure Item (whole : ByteArray) (zs L : List At) (l : List UInt8) (a : At) (c : UInt8) (t : List UInt8) : Prop where
  good : Good whole L
  right : rightB a = true
  wf : a.Wf
  text : l = a.name.data.toList ++ (32 :: 61 :: 32 :: (valueL a ++ c :: t))
  sep : (c = 125 ∧ t = [] ∧ zs ++ [a] = L) ∨ (c = 44 ∧ ∃ u, t = 32 :: u ∧ RestOf whole (zs ++ [a]) u)
theorem good_one {whole : ByteArray} {wE : World} (hE : Env wE) {L L' : List At} (h : Good whole L) (h' : Good whole L') (hs : whole.size < 4294967281) : L = L' := by
  obtain ⟨e, w', fr, hR, _⟩ := Parse_any whole hs wE hE []
  obtain ⟨_, ⟨M, _, _, _, _, _, _, _, hu⟩ | ⟨_, hno⟩⟩ := hR
  · exact (hu L h).symm.trans (hu L' h')
  · exact absurd h (hno L)
theorem RestOf.item {whole : ByteArray} {zs : List At} {l : List UInt8} {wE : World} (hE : Env wE) (hs : whole.size < 4294967281) (h : RestOf whole zs l) {L : List At} (hG : Good whole L) : ∃ a c t, Item whole zs L l a c t := by
  obtain ⟨hlt, hz, hl⟩ := h L hG
  have ha := List.drop_eq_getElem_cons hlt
  have hm := List.getElem_mem hlt
  have hsn : zs ++ [L[zs.length]] = L.take (zs.length + 1) := by
    rw [List.take_add_one, List.getElem?_eq_getElem hlt]
    exact congrArg (· ++ [L[zs.length]]) hz
  rw [ha] at hl
  have hr := rightL_all hG.right _ hm
  have hw := hG.wf _ hm
  cases hd : L.drop (zs.length + 1) with
  | nil =>
    rw [hd] at hl
    refine ⟨L[zs.length], 125, [], hG, hr, hw, ?_, .inl ⟨rfl, rfl, ?_⟩⟩
    · rw [hl, List.map_cons, List.map_nil, Lib.join_one]
      unfold itemL
      simp
    · have h1 := List.take_append_drop (zs.length + 1) L
      rw [hd, List.append_nil] at h1
      rw [hsn, h1]
  | cons b r =>
    rw [hd] at hl
    refine ⟨L[zs.length], 44, 32 :: (Lib.join (itemL b :: r.map itemL) gap ++ [125]), hG, hr, hw, ?_, .inr ⟨rfl, _, rfl, ?_⟩⟩
    · rw [hl, List.map_cons, List.map_cons, join_more]
      unfold itemL
      simp
    · intro L' hG'
      obtain rfl := good_one hE hG hG' hs
      have hlen : (zs ++ [L[zs.length]]).length = zs.length + 1 := by rw [List.length_append, List.length_singleton]
      rw [hlen]
      refine ⟨?_, hsn, by rw [hd, List.map_cons]⟩
      have := congrArg List.length hd
      rw [List.length_drop, List.length_cons] at this
      omega
/-- Where the name ends. -/
theorem Item.name {whole : ByteArray} {zs L : List At} {l : List UInt8} {a : At} {c : UInt8} {t : List UInt8} (h : Item whole zs L l a c t) {i : Nat} (h1 : ∀ j, j < i → l[j]? ≠ some 32) (h2 : l[i]? = some 32 ∨ l.length ≤ i) : i = a.name.data.toList.length := by
  have hb : ∀ x ∈ a.name.data.toList, x ≠ 32 := fun x hx => blank_part x (List.all_eq_true.1 ((isNameR_iff _).1 (right_cases h.right).1).2.2 x hx)
  have hat : l[a.name.data.toList.length]? = some 32 := by rw [h.text, List.getElem?_append_right (Nat.le_refl _), Nat.sub_self]; rfl
  rcases Nat.lt_trichotomy i a.name.data.toList.length with hlt | he | hgt
  · have hx : l[i]? = some (a.name.data.toList[i]) := by rw [h.text, List.getElem?_append_left hlt, List.getElem?_eq_getElem hlt]
    rcases h2 with h2 | h2
    · rw [hx] at h2
      exact absurd (Option.some.inj h2) (hb _ (List.getElem_mem hlt))
    · rw [List.getElem?_eq_none h2] at hx
      cases hx
  · exact he
  · exact absurd hat (h1 _ hgt)
theorem Item.behind {whole : ByteArray} {zs L : List At} {l : List UInt8} {a : At} {c : UInt8} {t : List UInt8} (h : Item whole zs L l a c t) :
    l.take a.name.data.toList.length = a.name.data.toList ∧ (l.drop a.name.data.toList.length).take 3 = [32, 61, 32] ∧ l.drop (a.name.data.toList.length + 3) = valueL a ++ c :: t ∧ a.name.data.toList.length + 3 ≤ l.length := by
  have hd : l.drop a.name.data.toList.length = 32 :: 61 :: 32 :: (valueL a ++ c :: t) := by rw [h.text]; exact List.drop_left' rfl
  refine ⟨by rw [h.text]; exact List.take_left' rfl, by rw [hd]; rfl, by rw [← List.drop_drop, hd]; rfl, ?_⟩
  rw [h.text, List.length_append]
  simp only [List.length_cons]
  omega
theorem Item.value {whole : ByteArray} {zs L : List At} {l m : List UInt8} {a : At} {c : UInt8} {t : List UInt8} (h : Item whole zs L l a c t) (hm : m = valueL a ++ c :: t) {n : Nat} (hn : EndsAt m n) :
    n = (valueL a).length ∧ m.take n = valueL a ∧ m[n]? = some c ∧ n < m.length ∧ m.drop (n + 1) = t := by
  have hc : sepC c := by
    unfold sepC
    rcases h.sep with ⟨rfl, _⟩ | ⟨rfl, _⟩
    · exact .inr rfl
    · exact .inl rfl
  have e := hn (valueL a) c t hm hc (value_val h.right)
  subst e hm
  refine ⟨rfl, List.take_left' rfl, by rw [List.getElem?_append_right (Nat.le_refl _), Nat.sub_self]; rfl, by rw [List.length_append, List.length_cons]; omega, ?_⟩
  rw [← List.drop_drop, List.drop_left' rfl]
  rfl
end Go.Proofs.YtiofnjnaleglgaaGreatDoor

/-
  One attribute is appended to a slice of the call's own, however long a list of a string may be.
-/
namespace Go.Proofs.YtiofnjnaleglgaaGreatDoor
open Go.RowKit Go.Shelf
attribute [local go_sem] Oper.semAt_some

/-- Every block but the row's own lies as it lay, and is not the row's own afterwards. -/
structure FarKept (w w' : World) (v v' : Value) : Prop where
  heap : ∀ k, k < w.heap.size → some k ≠ v.ownBlock → w'.heap[k]? = w.heap[k]?
  far : ∀ k, k < w.heap.size → some k ≠ v.ownBlock → some k ≠ v'.ownBlock
/-- One attribute is appended to a slice of the call's own: what is kept. -/
theorem append6_big {w : World} {B : Nat} {ao : Option Addr} {c : Nat} {es : List El} (h : w.ownsRow B 29 6 (.slice ao es.length c) es.length (es.flatMap El.cells)) (hB : B ≤ w.heap.size) (h3 : es.length ≤ 1048576) (x : El) (T : TypeId) {ty : TypeId} :
    ∃ ao' c' w', (Builtin.append_ #[22, 22] ty #[.slice ao es.length c, .slice (some ⟨w.heap.size, 0, none⟩) 1 1]).run Tryz.prog (w.alloc (.cells x.cells.toArray T)) = .ok (.slice ao' (es.length + 1) c') w' ∧
      w'.ownsRow B 29 6 (.slice ao' (es ++ [x]).length c') (es ++ [x]).length ((es ++ [x]).flatMap El.cells) ∧ Below B w w' ∧ w.heap.size ≤ w'.heap.size ∧ FarKept w w' (.slice ao es.length c) (.slice ao' (es ++ [x]).length c') := by
  obtain ⟨i, hi, hz, hsz, hby⟩ := info_attr
  have hown : (w.alloc (.cells x.cells.toArray T)).ownsRow B 29 6 (.slice ao es.length c) es.length (es.flatMap El.cells) := by
    refine ⟨h.1, ?_⟩
    rcases h.2 with h | ⟨g, c', cur, hv, hb, hg, hr⟩
    · exact .inl h
    · exact .inr ⟨g, c', cur, hv, hb, (Below.heap_alloc _ _ _ (lt_of_block hg)).trans hg, hr⟩
  have hcell : ∀ j u, x.cells[j]? = some u → (w.alloc (.cells x.cells.toArray T)).cell? ((⟨w.heap.size, 0, none⟩ : Addr).add j) = some u := by
    intro j u hj
    rw [add_row, row_cell (heap_alloc_new _ _), List.getElem?_toArray]
    exact hj
  obtain ⟨v', w', hr, h1, h2, _, h4⟩ := run_append_own_at (P := Tryz.prog) (w.alloc (.cells x.cells.toArray T)) B 22 ty 29 i _ 6 i.bytes Tryz.underlying22 hi hz hsz rfl rfl (by decide)
    (.slice ao es.length c) es.length (es.flatMap El.cells) hown ⟨w.heap.size, 0, none⟩ 1 1 x.cells rfl hcell (fun u hu => by simp only [El.cells, List.mem_cons, List.not_mem_nil, or_false] at hu; rcases hu with rfl | rfl | rfl | rfl | rfl | rfl <;> rfl) (by simp only [maxLen]; omega) (by
      have : (es.length + 1) * i.bytes ≤ 1048577 * i.bytes := Nat.mul_le_mul_right _ (by omega)
      omega) (by simp; omega)
  obtain ⟨ao', c', rfl⟩ := own6_slice h1
  have hs : w.heap.size ≤ w'.heap.size := by have := h2.size; simp at this; omega
  have hk : ∀ k, k < w.heap.size → some k ≠ (Value.slice ao es.length c).ownBlock → w'.heap[k]? = w.heap[k]? := fun k hk hne =>
    (h2.block k (by simp; omega) hne).trans (Below.heap_alloc _ _ _ (by omega))
  have hob : ∀ k, some k = (Value.slice ao es.length c).ownBlock → B ≤ k ∧ ∃ cur, w.heap[k]? = some (.cells cur 29 (0, 0)) := by
    intro k e
    rcases h.2 with ⟨hv, _⟩ | ⟨g, cc, cur, hv, hb, hg, _⟩
    · rw [hv] at e; cases e
    · rw [hv] at e
      cases e
      exact ⟨hb, cur, hg⟩
  refine ⟨ao', c', w', hr, ?_, ?_, hs, ⟨hk, fun k hkl hne e => ?_⟩⟩
  · rw [List.length_append, List.flatMap_append]
    simpa using h1
  · refine ⟨h2.os.trans rfl, h2.tape.trans rfl, h2.output.trans rfl, by omega, fun k hkB => hk k (by omega) (fun e => ?_)⟩
    have := (hob k e).1
    omega
  · have h5 : (Value.slice ao' (es ++ [x]).length c').ownBlock = (Value.slice ao' (es.length + 1) c').ownBlock := by
      cases ao' <;> rfl
    rw [h5] at e
    rcases h4 with h4 | h4
    · exact hne (e.trans h4)
    · rw [h4] at e
      simp at e
      omega

theorem wp_append_big {ops : Array Oper} {rest : List Oper} {o : Oper} {a : Act} {Q : Exit → Act → World → Prop} {w : World} (hgd : o.guard = none) (s x : Operand)
    (ho : o.op = .call { callee := .builtin .append, args := #[s, x], argTypes := #[22, 22] }) {B : Nat} {ao : Option Addr} {c : Nat} {es : List El} {e : El}
    (h : w.ownsRow B 29 6 (.slice ao es.length c) es.length (es.flatMap El.cells)) (hB : B ≤ w.heap.size) (h3 : es.length ≤ 1048576) (hs : a.eval s = .slice ao es.length c) (hx : a.eval x = .slice (some ⟨w.heap.size, 0, none⟩) 1 1)
    (hk : ∀ ao' c' w', w'.ownsRow B 29 6 (.slice ao' (es ++ [e]).length c') (es ++ [e]).length ((es ++ [e]).flatMap El.cells) → Below B w w' → FarKept w w' (.slice ao es.length c) (.slice ao' (es ++ [e]).length c') → wpList Tryz.prog ops Q rest (a.put o.dst (.slice ao' (es.length + 1) c')) w') :
    wpList Tryz.prog ops Q (o :: rest) a (w.alloc (.cells #[.string e.a.name, .int .i64 e.a.kind, .int .i64 e.a.num, .string e.a.text, .slice e.ai e.a.ints.length e.ci, .slice e.ao e.a.texts.length e.ct] 29)) := by
  obtain ⟨ao', c', w', hr, h1, h2, _, h3⟩ := append6_big (ty := o.type) h hB h3 e 29
  simp only [El.cells] at hr
  refine wpList_plain hgd fun K hK => ?_
  unfold Oper.wp execOp
  simp only [ho, resolve, invoke, builtin, Sem.run_bind, Sem.run_pure, Result.andThen_ok, List.map_toArray, List.map_cons, List.map_nil, hs, hx, hr]
  exact hK _ _ (hk ao' c' w' h1 h2 h3)
theorem right_short {a : At} (h : rightB a = true) : Short a := by
  have sz : ∀ s : ByteArray, s.size = s.data.toList.length := fun s => size_eq s
  obtain ⟨_, ⟨n, z, rfl⟩ | ⟨n, t, rfl, ht⟩ | ⟨n, t, rfl, ht⟩ | ⟨n, t, rfl, ht⟩ | ⟨n, zs, rfl, hz⟩ | ⟨n, ss, rfl, hl, hs⟩⟩ := right_cases h
  · exact ⟨Nat.zero_le _, fun s hs => by cases hs⟩
  · exact ⟨Nat.le_trans ht (by decide), fun s hs => by cases hs⟩
  · exact ⟨by have := name_size ht; have := sz t; show t.size ≤ _; omega, fun s hs => by cases hs⟩
  · exact ⟨by have := isTy_len ht; have := sz t; show t.size ≤ _; omega, fun s hs => by cases hs⟩
  · exact ⟨Nat.zero_le _, fun s hs => by cases hs⟩
  · exact ⟨Nat.zero_le _, fun s h => by have := isTy_len (List.all_eq_true.1 hs s h); have := sz s; omega⟩
end Go.Proofs.YtiofnjnaleglgaaGreatDoor

/-
  What the reference's 'Parse' holds between two rounds.
-/
namespace Go.Proofs.YtiofnjnaleglgaaGreatDoor
open Go.RowKit

/-- What an attribute points to lies beside the row of attributes. -/
structure FarE (W : World) (v : Value) (e : El) : Prop where
  ni : e.a.ints ≠ [] → ∀ x, e.ai = some x → x.block < W.heap.size ∧ some x.block ≠ v.ownBlock
  nt : e.a.texts ≠ [] → ∀ x, e.ao = some x → x.block < W.heap.size ∧ some x.block ≠ v.ownBlock
theorem FarE.later {W W' : World} {v : Value} {e : El} (h : FarE W v e) (hs : W.heap.size ≤ W'.heap.size) : FarE W' v e :=
  ⟨fun hn x hx => ⟨Nat.lt_of_lt_of_le (h.ni hn x hx).1 hs, (h.ni hn x hx).2⟩, fun hn x hx => ⟨Nat.lt_of_lt_of_le (h.nt hn x hx).1 hs, (h.nt hn x hx).2⟩⟩
theorem far_kept {W W' : World} {v v' : Value} {e : El} (h : ElOK W e) (hf : FarE W v e) (hk : FarKept W W' v v') (hs : W.heap.size ≤ W'.heap.size) : ElOK W' e ∧ FarE W' v' e := by
  refine ⟨⟨?_, ?_, h.icap, h.tcap, h.wf⟩, ⟨fun hn x hx => ?_, fun hn x hx => ?_⟩⟩
  · rcases h.ints with h0 | ⟨a, ha, hc⟩
    · exact .inl h0
    · refine .inr ⟨a, ha, fun j hj => cell_block (hc j hj) ?_⟩
      have hb := hf.ni (fun e => by rw [e] at hj; exact absurd hj (Nat.not_lt_zero _)) a ha
      rw [add_block]
      exact hk.heap _ hb.1 hb.2
  · rcases h.texts with h0 | ⟨a, ha, hc⟩
    · exact .inl h0
    · refine .inr ⟨a, ha, fun j hj => cell_block (hc j hj) ?_⟩
      have hb := hf.nt (fun e => by rw [e] at hj; exact absurd hj (Nat.not_lt_zero _)) a ha
      rw [add_block]
      exact hk.heap _ hb.1 hb.2
  · have hb := hf.ni hn x hx
    exact ⟨Nat.lt_of_lt_of_le hb.1 hs, hk.far _ hb.1 hb.2⟩
  · have hb := hf.nt hn x hx
    exact ⟨Nat.lt_of_lt_of_le hb.1 hs, hk.far _ hb.1 hb.2⟩
theorem far_new {W : World} {v va : Value} {a : At} {ai : Option Addr} {ci : Nat} {ao : Option Addr} {ct N : Nat} (h : AttAt W a va ai ci ao ct) (hv : ∀ k, some k = v.ownBlock → k < N) (hi : ∀ x, ai = some x → N ≤ x.block) (ht : ∀ x, ao = some x → N ≤ x.block) : ElOK W ⟨a, ai, ci, ao, ct⟩ ∧ FarE W v ⟨a, ai, ci, ao, ct⟩ := by
  refine ⟨⟨h.ints, h.texts, h.icap, h.tcap, h.wf⟩, ⟨fun hn x hx => ?_, fun hn x hx => ?_⟩⟩
  · rcases h.ints with h0 | ⟨b, hb, hc⟩
    · exact absurd h0 hn
    · obtain rfl : b = x := Option.some.inj (hb.symm.trans hx)
      have h1 := block_lt_of_cell (hc 0 (List.length_pos_iff.2 hn))
      rw [add_block] at h1
      refine ⟨h1, fun e => ?_⟩
      have := hv _ e
      have := hi _ hx
      omega
  · rcases h.texts with h0 | ⟨b, hb, hc⟩
    · exact absurd h0 hn
    · obtain rfl : b = x := Option.some.inj (hb.symm.trans hx)
      have h1 := block_lt_of_cell (hc 0 (List.length_pos_iff.2 hn))
      rw [add_block] at h1
      refine ⟨h1, fun e => ?_⟩
      have := hv _ e
      have := ht _ hx
      omega
/-- The state at the head of a round: the attributes read lie in the call's own row; what is left of the string. -/
structure ParS (w : World) (s q : ByteArray) (ao : Option Addr) (c : Nat) (es : List El) (W : World) : Prop where
  own : W.ownsRow w.heap.size 29 6 (.slice ao es.length c) es.length (es.flatMap El.cells)
  ok : ∀ e ∈ es, ElOK W e ∧ FarE W (.slice ao es.length c) e ∧ rightB e.a = true
  below : Below w.heap.size w W
  few : es.length + q.size ≤ 1048576
  rest : RestOf s (es.map (fun e : El => e.a)) q.data.toList
theorem ParS.under {w W W' : World} {s q : ByteArray} {ao : Option Addr} {c : Nat} {es : List El} (h : ParS w s q ao c es W) (hb : Below W.heap.size W W') : ParS w s q ao c es W' :=
  ⟨own6_kept h.own (fun k _ hk => hb.block k hk), fun e he => ⟨(h.ok e he).1.below hb, (h.ok e he).2.1.later hb.size, (h.ok e he).2.2⟩, h.below.trans (hb.mono h.below.size), h.few, h.rest⟩
/-- What the reference's 'Parse' answers. -/
def RParPost (s : ByteArray) (w : World) (e : Ending) (w' : World) : Prop := Below w.heap.size w w' ∧
  ((∃ (L : List At) (ao : Option Addr) (c : Nat), e = .returned (.tuple #[.slice ao L.length c, .bool true]) ∧ ListAt w' ao L ∧ Good s L) ∨
   (∃ (ao : Option Addr) (n c : Nat), e = .returned (.tuple #[.slice ao n c, .bool false]) ∧ ∀ L, ¬ Good s L))
end Go.Proofs.YtiofnjnaleglgaaGreatDoor

/-
  The reference's 'Parse' at a string that is empty or doesn't begin with a brace.
-/
namespace Go.Proofs.YtiofnjnaleglgaaGreatDoor
open Go.RowKit

set_option maxHeartbeats 1000000 in
theorem RParse_front (s : ByteArray) (hs : s.size ≤ 1048576) (w : World) (hno : s.data.toList[0]? ≠ some 123) : Calls Tryz.prog 36 #[.string s] w (RParPost s w) := by
  by_cases h0 : s.size = 0
  · have hl : s.data.toList = [] := by
      rw [size_eq] at h0
      exact List.eq_nil_of_length_eq_zero h0
    have hG := Lib.hid (show Good s [] from ⟨rfl, fun a ha => (by cases ha), by rw [hl]; rfl⟩)
    have hem : s.toList.isEmpty = true := by
      rw [ByteArray.toList_eq, hl]
      rfl
    clear h0 hno hl
    go_enter Tryz.func36, Tryz.ntmps36
    go_wp2_with fail
    go_ret2
    exact ⟨Below.refl _ _, .inl ⟨[], none, 0, rfl, .inl rfl, hG.out⟩⟩
  · have hem : s.toList.isEmpty = false := by
      cases h : s.toList.isEmpty
      · rfl
      · rw [ByteArray.toList_eq, List.isEmpty_iff] at h
        rw [size_eq, h] at h0
        exact absurd rfl h0
    have hpos : 0 < s.size := by omega
    have hne : s ≠ ⟨#[]⟩ := fun e => by rw [e] at hpos; exact absurd hpos (by decide)
    have hix0 := fun w => ix_at (s := s) (m := 0) (z := 0) rfl hpos w
    have hhd := get_at hpos
    have hc256 := (s[0]'hpos).toNat_lt
    generalize s[0]'hpos = c0 at hix0 hhd hc256
    have k123 : ¬ (c0.toNat : Int) = 123 := by
      intro h
      refine hno (hhd.trans (congrArg some (UInt8.toNat_inj.1 ?_)))
      show c0.toNat = 123
      omega
    have hN := Lib.hid (show ∀ L, ¬ Good s L from fun L hL => hno (good_brace hL hne))
    have hszi : (s.size : Int) ≤ 1048576 := by omega
    clear hhd hno hne h0 hs
    go_enter Tryz.func36, Tryz.ntmps36
    go_wp2_with fail
    go_ret2
    exact ⟨Below.refl _ _, .inr ⟨none, 0, 0, rfl, hN.out⟩⟩
/-- The item that the round is at, and where its name ends. -/
theorem par_at {w W : World} {s q : ByteArray} {ao : Option Addr} {c : Nat} {es : List El} (h : ParS w s q ao c es W) (hE : Env w) (hs : s.size ≤ 1048576) {m : Nat} (hA : ∀ j, j < m → q.data.toList[j]? ≠ some 32) (hst : q.data.toList[m]? = some 32 ∨ q.data.toList.length ≤ m) {L : List At} (hL : Good s L) :
    ∃ a x t, Item s (es.map (fun e : El => e.a)) L q.data.toList a x t ∧ m = a.name.data.toList.length := by
  obtain ⟨a, x, t, hi⟩ := h.rest.item hE (by omega) hL
  exact ⟨a, x, t, hi, hi.name hA hst⟩
theorem par_short {w W : World} {s q : ByteArray} {ao : Option Addr} {c : Nat} {es : List El} (h : ParS w s q ao c es W) (hE : Env w) (hs : s.size ≤ 1048576) {m : Nat} (hA : ∀ j, j < m → q.data.toList[j]? ≠ some 32) (hst : q.data.toList[m]? = some 32 ∨ q.data.toList.length ≤ m) (h3 : ¬ m + 3 ≤ q.size) : ∀ L, ¬ Good s L := fun L hL => by
  obtain ⟨a, x, t, hi, rfl⟩ := par_at h hE hs hA hst hL
  have := hi.behind.2.2.2
  rw [← size_eq q] at this
  exact h3 this
theorem par_other {w W : World} {s q : ByteArray} {ao : Option Addr} {c : Nat} {es : List El} (h : ParS w s q ao c es W) (hE : Env w) (hs : s.size ≤ 1048576) {m : Nat} (hA : ∀ j, j < m → q.data.toList[j]? ≠ some 32) (hst : q.data.toList[m]? = some 32 ∨ q.data.toList.length ≤ m) (hne : (q.data.toList.drop m).take 3 ≠ [32, 61, 32]) : ∀ L, ¬ Good s L := fun L hL => by
  obtain ⟨a, x, t, hi, rfl⟩ := par_at h hE hs hA hst hL
  exact hne hi.behind.2.1
end Go.Proofs.YtiofnjnaleglgaaGreatDoor

/-
  What a round of the reference's 'Parse' has read, as plain facts.
-/
namespace Go.Proofs.YtiofnjnaleglgaaGreatDoor
open Go.RowKit

section
variable {w : World} {s q : ByteArray} {zs L : List At} {m n : Nat}
/-- The string behind the name and ' = '. -/
def behindB (q : ByteArray) (m : Nat) : ByteArray := q.extract (m + 3) q.size
theorem behind_list (q : ByteArray) (m : Nat) : (behindB q m).data.toList = q.data.toList.drop (m + 3) := back_extract q (m + 3)
/-- The name ends at m, ' = ' is behind it, the value ends at n. -/
structure HeadAt (w : World) (s q : ByteArray) (zs : List At) (m n : Nat) : Prop where
  rest : RestOf s zs q.data.toList
  env : Env w
  few : s.size ≤ 1048576
  name : ∀ j, j < m → q.data.toList[j]? ≠ some 32
  blank : q.data.toList[m]? = some 32
  ends : EndsAt (behindB q m).data.toList n
theorem HeadAt.item (h : HeadAt w s q zs m n) (hL : Good s L) : ∃ a c t, Item s zs L q.data.toList a c t ∧ a.name = q.extract 0 m ∧ valueL a = ((behindB q m).extract 0 n).data.toList ∧ n = (valueL a).length ∧
    (behindB q m).data.toList[n]? = some c ∧ n < (behindB q m).size ∧ (behindB q m).data.toList.drop (n + 1) = t := by
  obtain ⟨a, c, t, hi⟩ := h.rest.item h.env (by have := h.few; omega) hL
  obtain rfl := hi.name h.name (.inl h.blank)
  obtain ⟨h1, _, h3, _⟩ := hi.behind
  obtain ⟨hn, hv, hc, hl, ht⟩ := hi.value ((behind_list q _).trans h3) h.ends
  refine ⟨a, c, t, hi, bytes_inj ?_, ?_, hn, hc, ?_, ht⟩
  · rw [front_extract, h1]
  · rw [front_extract, hv]
  · rw [size_eq]; exact hl
theorem HeadAt.no (h : HeadAt w s q zs m n) (hno : ∀ b : At, rightB b = true → b.Wf → b.name = q.extract 0 m → valueL b ≠ ((behindB q m).extract 0 n).data.toList) : ∀ L, ¬ Good s L := fun L hL => by
  obtain ⟨a, c, t, hi, h1, h2, _⟩ := h.item hL
  exact hno a hi.right hi.wf h1 h2
theorem HeadAt.out (h : HeadAt w s q zs m n) (hn : (behindB q m).size ≤ n) : ∀ L, ¬ Good s L := fun L hL => by
  obtain ⟨a, c, t, hi, _, _, _, _, h2, _⟩ := h.item hL
  omega
theorem HeadAt.same (h : HeadAt w s q zs m n) {x : At} (hr : rightB x = true) (hw : x.Wf) (hx : x.name = q.extract 0 m) (hv : valueL x = ((behindB q m).extract 0 n).data.toList) (hL : Good s L) :
    ∃ c t, Item s zs L q.data.toList x c t ∧ (behindB q m).data.toList[n]? = some c ∧ (behindB q m).data.toList.drop (n + 1) = t := by
  obtain ⟨a, c, t, hi, h1, h2, _, hc, _, ht⟩ := h.item hL
  obtain rfl := value_uniq h.env hi.right hr hi.wf hw (hx.trans h1.symm) (hv.trans h2.symm)
  exact ⟨c, t, hi, hc, ht⟩
/-- At a closing brace: the list is whole, and nothing is behind it. -/
theorem HeadAt.brace (h : HeadAt w s q zs m n) {x : At} (hr : rightB x = true) (hw : x.Wf) (hx : x.name = q.extract 0 m) (hv : valueL x = ((behindB q m).extract 0 n).data.toList) (hb : (behindB q m).data.toList[n]? = some 125) (hL : Good s L) :
    zs ++ [x] = L ∧ n + 1 = (behindB q m).size := by
  obtain ⟨c, t, hi, hc, ht⟩ := h.same hr hw hx hv hL
  obtain rfl := Option.some.inj (hb.symm.trans hc)
  rcases hi.sep with ⟨_, h1, h2⟩ | ⟨h1, _⟩
  · refine ⟨h2, ?_⟩
    have h3 := congrArg List.length ht
    rw [h1, List.length_drop, ← size_eq] at h3
    have h4 := (List.getElem?_eq_some_iff.1 hb).1
    rw [← size_eq] at h4
    simp only [List.length_nil] at h3
    omega
  · exact absurd h1 (by decide)
/-- At another byte: a blank is behind it, and then the next item. -/
theorem HeadAt.comma (h : HeadAt w s q zs m n) {x : At} (hr : rightB x = true) (hw : x.Wf) (hx : x.name = q.extract 0 m) (hv : valueL x = ((behindB q m).extract 0 n).data.toList) (hb : (behindB q m).data.toList[n]? ≠ some 125) (hL : Good s L) :
    n + 1 < (behindB q m).size ∧ (behindB q m).data.toList[n + 1]? = some 32 ∧ RestOf s (zs ++ [x]) ((behindB q m).data.toList.drop (n + 2)) := by
  obtain ⟨c, t, hi, hc, ht⟩ := h.same hr hw hx hv hL
  rcases hi.sep with ⟨h1, _⟩ | ⟨_, u, h1, h2⟩
  · exact absurd (h1 ▸ hc) hb
  · rw [h1] at ht
    have h3 : (behindB q m).data.toList[n + 1]? = some 32 := by
      have := congrArg (fun l : List UInt8 => l[0]?) ht
      rw [List.getElem?_drop] at this
      simpa using this
    have h4 := (List.getElem?_eq_some_iff.1 h3).1
    rw [← size_eq] at h4
    refine ⟨h4, h3, ?_⟩
    have h5 : (behindB q m).data.toList.drop (n + 2) = u := by
      rw [show n + 2 = (n + 1) + 1 from rfl, ← List.drop_drop, ht]
      rfl
    rw [h5]
    exact h2
theorem HeadAt.rest_next (h : HeadAt w s q zs m n) {x : At} (hr : rightB x = true) (hw : x.Wf) (hx : x.name = q.extract 0 m) (hv : valueL x = ((behindB q m).extract 0 n).data.toList) (hb : (behindB q m).data.toList[n]? ≠ some 125) :
    RestOf s (zs ++ [x]) ((behindB q m).extract (n + 2) (behindB q m).size).data.toList := fun L hL => by
  rw [back_extract]
  exact (h.comma hr hw hx hv hb hL).2.2 L hL
theorem HeadAt.stop (h : HeadAt w s q zs m n) {x : At} (hr : rightB x = true) (hw : x.Wf) (hx : x.name = q.extract 0 m) (hv : valueL x = ((behindB q m).extract 0 n).data.toList) (hb : (behindB q m).data.toList[n]? ≠ some 125) (hno : ¬ (n + 1 < (behindB q m).size) ∨ (behindB q m).data.toList[n + 1]? ≠ some 32) : ∀ L, ¬ Good s L := fun L hL => by
  obtain ⟨h1, h2, _⟩ := h.comma hr hw hx hv hb hL
  rcases hno with hno | hno
  · exact hno h1
  · exact hno h2
/-- What the last return says of the list that was read. -/
theorem HeadAt.end_no (h : HeadAt w s q zs m n) {x : At} (hr : rightB x = true) (hw : x.Wf) (hx : x.name = q.extract 0 m) (hv : valueL x = ((behindB q m).extract 0 n).data.toList) (hb : (behindB q m).data.toList[n]? = some 125)
    (hno : n + 1 ≠ (behindB q m).size ∨ rightL (zs ++ [x]) = false ∨ listL (zs ++ [x]) ≠ s.data.toList) : ∀ L, ¬ Good s L := fun L hL => by
  obtain ⟨h1, h2⟩ := h.brace hr hw hx hv hb hL
  rcases hno with hno | hno | hno
  · exact hno h2
  · rw [h1, hL.right] at hno; cases hno
  · rw [h1] at hno; exact hno hL.text
end
end Go.Proofs.YtiofnjnaleglgaaGreatDoor
