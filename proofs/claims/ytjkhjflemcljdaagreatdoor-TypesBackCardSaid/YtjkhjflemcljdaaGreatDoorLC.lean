/-
  The reference's 'Split' by its contract.
-/
import Derived.Test.YtjkhjflemcljdaaGreatDoorLB
namespace Go.Proofs.YtjkhjflemcljdaaGreatDoor
open Go.RowKit

theorem info_str : ∃ i, Tryz.prog.info? 9 = some i ∧ i.zero = some (.string ⟨#[]⟩) ∧ i.size = 1 ∧ i.bytes = 16 := by
  have h1 : (Tryz.prog.info? 9).map (·.zero) = some (some (.string ⟨#[]⟩)) := by kernel_rfl
  have h2 : (Tryz.prog.info? 9).map (·.size) = some 1 := by kernel_rfl
  have h3 : (Tryz.prog.info? 9).map (·.bytes) = some 16 := by kernel_rfl
  cases hi : Tryz.prog.info? 9 with
  | none => rw [hi] at h1; cases h1
  | some i =>
    rw [hi] at h1 h2 h3
    exact ⟨i, rfl, Option.some.inj h1, Option.some.inj h2, Option.some.inj h3⟩

/-- One string is appended to a slice of the call's own. -/
theorem append_str_run {w : World} {B : Nat} {ao : Option Addr} {c : Nat} {ps : List ByteArray} (h : w.ownsRow B 9 1 (.slice ao ps.length c) ps.length (ps.map .string)) (hB : B ≤ w.heap.size) (h3 : ps.length ≤ 2000000) (x : ByteArray) (T : TypeId) {ty : TypeId} :
    ∃ ao' c' w', (Builtin.append_ #[59, 59] ty #[.slice ao ps.length c, .slice (some ⟨w.heap.size, 0, none⟩) 1 1]).run Tryz.prog (w.alloc (.cells #[.string x] T)) = .ok (.slice ao' (ps.length + 1) c') w' ∧
      w'.ownsRow B 9 1 (.slice ao' (ps ++ [x]).length c') (ps ++ [x]).length ((ps ++ [x]).map .string) ∧ Below B w w' ∧ w.heap.size ≤ w'.heap.size := by
  obtain ⟨i, hi, hz, hsz, hby⟩ := info_str
  have hown : (w.alloc (.cells #[.string x] T)).ownsRow B 9 1 (.slice ao ps.length c) ps.length (ps.map .string) := by
    refine ⟨h.1, ?_⟩
    rcases h.2 with h | ⟨g, c', cur, hv, hb, hg, hr⟩
    · exact .inl h
    · exact .inr ⟨g, c', cur, hv, hb, (Below.heap_alloc _ _ _ (lt_of_block hg)).trans hg, hr⟩
  have hcell : ∀ j u, [Value.string x][j]? = some u → (w.alloc (.cells #[.string x] T)).cell? ((⟨w.heap.size, 0, none⟩ : Addr).add j) = some u := by
    intro j u hj
    cases j with
    | zero =>
      simp only [List.getElem?_cons_zero, Option.some.injEq] at hj
      subst hj
      rw [Addr.add_lit, cell_of_row _ _ _ _ _ _ (heap_alloc_new _ _)]
      rfl
    | succ j => simp at hj
  obtain ⟨v', w', hr, h1, h2, _, h4⟩ := run_append_own_at (P := Tryz.prog) (w.alloc (.cells #[.string x] T)) B 59 ty 9 i (.string ⟨#[]⟩) 1 16 Tryz.underlying59 hi hz hsz hby rfl (by decide)
    (.slice ao ps.length c) ps.length (ps.map .string) hown ⟨w.heap.size, 0, none⟩ 1 1 [.string x] rfl hcell (fun u hu => by simp only [List.mem_singleton] at hu; subst hu; rfl) (by simp only [maxLen]; omega) (by omega) (by simp; omega)
  obtain ⟨ao', c', rfl⟩ := own_slice h1
  refine ⟨ao', c', w', hr, ?_, ?_, ?_⟩
  · rw [List.length_append, List.map_append]
    exact h1
  · refine ⟨h2.os.trans rfl, h2.tape.trans rfl, h2.output.trans rfl, ?_, fun k hk => ?_⟩
    · have := h2.size; simp at this; omega
    · rw [h2.block k (by simp; omega) (fun e => by
        have := own_below hown e.symm
        omega)]
      exact Below.heap_alloc _ _ _ (by omega)
  · have := h2.size; simp at this; omega

theorem wp_append_str {ops : Array Oper} {rest : List Oper} {o : Oper} {a : Act} {Q : Exit → Act → World → Prop} {w : World} (hgd : o.guard = none) (s x : Operand)
    (ho : o.op = .call { callee := .builtin .append, args := #[s, x], argTypes := #[59, 59] }) {B : Nat} {ao : Option Addr} {c : Nat} {ps : List ByteArray} {n : ByteArray}
    (h : w.ownsRow B 9 1 (.slice ao ps.length c) ps.length (ps.map .string)) (hB : B ≤ w.heap.size) (h3 : ps.length ≤ 2000000) (hs : a.eval s = .slice ao ps.length c) (hx : a.eval x = .slice (some ⟨w.heap.size, 0, none⟩) 1 1)
    (hk : ∀ ao' c' w', w'.ownsRow B 9 1 (.slice ao' (ps ++ [n]).length c') (ps ++ [n]).length ((ps ++ [n]).map .string) → Below B w w' → wpList Tryz.prog ops Q rest (a.put o.dst (.slice ao' (ps.length + 1) c')) w') :
    wpList Tryz.prog ops Q (o :: rest) a (w.alloc (.cells #[.string n] 9)) := by
  obtain ⟨ao', c', w', hr, h1, h2, _⟩ := append_str_run (ty := o.type) h hB h3 n 9
  refine wpList_plain hgd fun K hK => ?_
  unfold Oper.wp execOp
  simp only [ho, resolve, invoke, builtin, Sem.run_bind, Sem.run_pure, Result.andThen_ok, List.map_toArray, List.map_cons, List.map_nil, hs, hx, hr]
  exact hK _ _ (hk ao' c' w' h1 h2)

theorem own_strs {w : World} {B n : Nat} {ao : Option Addr} {c : Nat} {ps : List ByteArray} (h : w.ownsRow B 9 1 (.slice ao n c) n (ps.map .string)) (hn : n = ps.length) : StrsAt w ao ps := by
  rcases h.2 with ⟨_, h0⟩ | ⟨g, c', cur, hv, _, hg, _, _, _, hcur⟩
  · rw [h0] at hn
    exact .inl (List.eq_nil_of_length_eq_zero hn.symm)
  · cases hv
    refine .inr ⟨_, rfl, fun j hj => ?_⟩
    have h1 : (cur.toList.take (n * 1))[j]? = some (.string (ps[j]?.getD ByteArray.empty)) := by
      rw [hcur, List.getElem?_map, List.getElem?_eq_getElem hj]; rfl
    rw [List.getElem?_take_of_lt (by omega)] at h1
    rw [Addr.add_lit, cell_of_row _ _ _ _ _ _ hg]
    simpa using h1

def SplitRPost (s : ByteArray) (w : World) (e : Ending) (w' : World) : Prop :=
  Below w.heap.size w w' ∧ ((splitR s.data.toList = none ∧ e = .returned (.tuple #[.slice none 0 0, .bool false])) ∨
    ∃ (ps : List ByteArray) (ao : Option Addr) (c : Nat), splitR s.data.toList = some (ps.map (·.data.toList)) ∧ StrsAt w' ao ps ∧ e = .returned (.tuple #[.slice ao ps.length c, .bool (decide (ps.length ≤ 100))]))
theorem splitR_end {s : ByteArray} {w w' : World} (h : splitR s.data.toList = none) (hb : Below w.heap.size w w') : SplitRPost s w (.returned (.tuple #[.slice none 0 0, .bool false])) w' := ⟨hb, .inl ⟨h, rfl⟩⟩

/-- What the reference's 'Split' holds between two rounds. -/
structure SSt (w : World) (l0 : List UInt8) (ps : List ByteArray) (q : ByteArray) (ao : Option Addr) (c : Nat) (wr : World) : Prop where
  own : wr.ownsRow w.heap.size 9 1 (.slice ao ps.length c) ps.length (ps.map .string)
  bel : Below w.heap.size w wr
  way : ∃ n, q.size < n ∧ splitL (l0.length + 1) l0 = (splitL n q.data.toList).map (ps.map (·.data.toList) ++ ·)
  few : ps.length + q.size ≤ 1048576
  more : 0 < q.size ∨ 0 < ps.length

theorem stop_at {p : UInt8 → Bool} {q : ByteArray} {m : Nat} (h : (q.data.toList.take m).all p = true) (hm : m < q.size) (hx : p (q[m]'hm) = false) :
    q.data.toList.takeWhile p = q.data.toList.take m ∧ q.data.toList.dropWhile p = q[m]'hm :: q.data.toList.drop (m + 1) := by
  have hl : m < q.data.toList.length := by simpa using hm
  have hcat : q.data.toList = q.data.toList.take m ++ q[m]'hm :: q.data.toList.drop (m + 1) := by
    conv => lhs; rw [← List.take_append_drop m q.data.toList, List.drop_eq_getElem_cons hl]
    rfl
  obtain ⟨h1, h2⟩ := tw_append (p := p) (m := q[m]'hm :: q.data.toList.drop (m + 1)) h
  rw [← hcat] at h1 h2
  simp only [List.takeWhile_cons, hx, List.dropWhile_cons, List.append_nil, Bool.false_eq_true, if_false] at h1 h2
  exact ⟨h1, h2⟩
theorem all_step {p : UInt8 → Bool} {s : ByteArray} {m : Nat} (h : (s.data.toList.take m).all p = true) (hm : m < s.size) (hp : p (s[m]'hm) = true) : (s.data.toList.take (m + 1)).all p = true := by
  have hl : m < s.data.toList.length := by simpa using hm
  rw [take_snoc hl, all_snoc, h, Bool.true_and]
  exact hp

section
variable {w : World} {l0 : List UInt8} {ps : List ByteArray} {q : ByteArray} {ao : Option Addr} {c : Nat} {wr : World}
theorem SSt.start (hq : q.size ≤ 1048576) (h0 : 0 < q.size) : SSt w q.data.toList [] q none 0 w :=
  ⟨⟨rfl, .inl ⟨rfl, rfl⟩⟩, Below.refl _ _, ⟨q.data.toList.length + 1, by simp, by simp⟩, by simpa using hq, .inl h0⟩
theorem SSt.notTy (h : SSt w l0 ps q ao c wr) (ht : isTyR (q.data.toList.takeWhile notComma) = false) : splitL (l0.length + 1) l0 = none := by
  obtain ⟨n, hn, e⟩ := h.way
  obtain ⟨k, rfl⟩ : ∃ k, n = k + 1 := ⟨n - 1, by omega⟩
  rw [e, splitL, if_pos ht]
  rfl
theorem SSt.noGap (h : SSt w l0 ps q ao c wr) (hd : ¬ q.data.toList.dropWhile notComma = []) (h32 : ¬ (q.data.toList.dropWhile notComma).tail.head? = some 32) : splitL (l0.length + 1) l0 = none := by
  obtain ⟨n, hn, e⟩ := h.way
  obtain ⟨k, rfl⟩ : ∃ k, n = k + 1 := ⟨n - 1, by omega⟩
  rw [e, splitL, if_neg hd, if_neg h32, ite_self]
  rfl
theorem SSt.last (h : SSt w l0 ps q ao c wr) (ht : isTyR q.data.toList = true) (ha : q.data.toList.all notComma = true) : splitL (l0.length + 1) l0 = some ((ps ++ [q]).map (·.data.toList)) := by
  obtain ⟨n, hn, e⟩ := h.way
  obtain ⟨k, rfl⟩ : ∃ k, n = k + 1 := ⟨n - 1, by omega⟩
  obtain ⟨h1, h2⟩ := tw_all ha
  rw [e, splitL, h1, h2, if_neg (by rw [ht]; decide), if_pos rfl]
  simp
theorem SSt.next (h : SSt w l0 ps q ao c wr) {m : Nat} (hm : m + 1 < q.size) (hst : q.data.toList.takeWhile notComma = q.data.toList.take m ∧ q.data.toList.dropWhile notComma = q[m]'(by omega) :: q.data.toList.drop (m + 1))
    (ht : isTyR (q.data.toList.take m) = true) (h32 : q[m + 1]'hm = 32) {ao' : Option Addr} {c' : Nat} {w2 : World}
    (hown : w2.ownsRow w.heap.size 9 1 (.slice ao' (ps ++ [q.extract 0 m]).length c') (ps ++ [q.extract 0 m]).length ((ps ++ [q.extract 0 m]).map .string)) (hb : Below w.heap.size wr w2) :
    SSt w l0 (ps ++ [q.extract 0 m]) (q.extract (m + 2) q.size) ao' c' w2 := by
  have hl : m + 1 < q.data.toList.length := by simpa using hm
  have hd : q.data.toList.drop (m + 1) = 32 :: q.data.toList.drop (m + 2) := by
    rw [List.drop_eq_getElem_cons hl]
    exact congrArg (· :: _) h32
  refine ⟨hown, h.bel.trans hb, ?_, ?_, .inr (by simp)⟩
  · obtain ⟨n, hn, e⟩ := h.way
    obtain ⟨k, rfl⟩ : ∃ k, n = k + 1 := ⟨n - 1, by omega⟩
    refine ⟨k, by rw [ByteArray.size_extract]; omega, ?_⟩
    rw [e, splitL, hst.1, hst.2, if_neg (by rw [ht]; decide), if_neg (by simp), List.tail_cons, hd, List.head?_cons, if_pos rfl, List.tail_cons, back_extract, List.map_append, List.map_singleton, front_extract]
    cases splitL k (q.data.toList.drop (m + 2)) with
    | none => rfl
    | some z => simp
  · have := h.few
    rw [ByteArray.size_extract, List.length_append, List.length_singleton]
    omega
end

theorem own_under {w w' : World} {B n : Nat} {e : TypeId} {v : Value} {xs : List Value} (h : w.ownsRow B e 1 v n xs) (hb : Below w.heap.size w w') : w'.ownsRow B e 1 v n xs := by
  refine ⟨h.1, ?_⟩
  rcases h.2 with h | ⟨g, c', cur, hv, hB, hg, hr⟩
  · exact .inl h
  · exact .inr ⟨g, c', cur, hv, hB, (hb.block _ (lt_of_block hg)).trans hg, hr⟩
theorem SSt.under {w : World} {l0 : List UInt8} {ps : List ByteArray} {q : ByteArray} {ao : Option Addr} {c : Nat} {wr w2 : World} (h : SSt w l0 ps q ao c wr) (hb : Below wr.heap.size wr w2) : SSt w l0 ps q ao c w2 :=
  ⟨own_under h.own hb, h.bel.trans (hb.mono h.bel.size), h.way, h.few, h.more⟩
theorem SSt.empty {w : World} {l0 : List UInt8} {ps : List ByteArray} {q : ByteArray} {ao : Option Addr} {c : Nat} {wr : World} (h : SSt w l0 ps q ao c wr) : q.toList.isEmpty = false ∨ (q.toList.isEmpty = true ∧ 0 < ps.length) := by
  cases hq : q.toList.isEmpty
  · exact .inl rfl
  · refine .inr ⟨rfl, h.more.resolve_left fun h0 => ?_⟩
    have he := empty_of hq
    rw [size_eq, he] at h0
    exact absurd h0 (Nat.lt_irrefl _)
theorem splitR_yes {s : ByteArray} {ps : List ByteArray} {x : ByteArray} {w w' : World} {ao : Option Addr} {c : Nat} {b : Bool} (h : splitR s.data.toList = some ((ps ++ [x]).map (·.data.toList))) (hb : Below w.heap.size w w') (hst : StrsAt w' ao (ps ++ [x]))
    (h1 : decide (ps.length + 1 ≤ 100) = b) : SplitRPost s w (.returned (.tuple #[.slice ao (ps.length + 1) c, .bool b])) w' :=
  ⟨hb, .inr ⟨ps ++ [x], ao, c, h, hst, by rw [List.length_append, List.length_singleton, h1]⟩⟩
theorem last_at {s : ByteArray} (h : s.size - 1 < s.size) : s.data.toList.getLast? = some (s[s.size - 1]'h) := by
  have hl : s.data.toList.length - 1 < s.data.toList.length := by simpa using h
  rw [List.getLast?_eq_getElem?, List.getElem?_eq_getElem hl]
  rfl
theorem inner_extract (s : ByteArray) : (s.extract 1 (s.size - 1)).data.toList = s.data.toList.tail.dropLast := by
  have hl : s.data.toList.length = s.size := by simp
  rw [extract_toList, List.dropLast_eq_take, List.length_tail, ← List.drop_one, List.drop_take, hl]
theorem byte_ne {c x : UInt8} {y : Int} (hx : (x.toNat : Int) = y) (h : ((c.toNat : Int) != y) = true) : ¬ c = x := by
  rintro rfl
  rw [bne_iff_ne] at h
  exact h hx
theorem byte_is {c x : UInt8} {y : Int} (hx : (x.toNat : Int) = y) (h : ((c.toNat : Int) != y) = false) : c = x := by
  refine UInt8.toNat_inj.1 ?_
  have : (c.toNat : Int) = y := by simpa using h
  omega
theorem notComma_at {c : UInt8} {b : Bool} (h : ((c.toNat : Int) != 44) = b) : notComma c = b := by
  unfold notComma bIs
  exact h

set_option maxHeartbeats 16000000 in
set_option maxRecDepth 100000 in
theorem SplitR_any (s : ByteArray) (hs : s.size ≤ 1048576) (w : World) : Calls Tryz.prog 36 #[.string s] w (SplitRPost s w) := by
  by_cases h2 : s.size < 2
  · have hr := Lib.hid (show splitR s.data.toList = none by rw [splitR, if_neg (by intro h; have := h.1; simp at this; omega)])
    go_enter Tryz.func36, Tryz.ntmps36
    go_wp2_with fail
    go_ret2
    exact splitR_end hr.out (Below.refl _ _)
  have h0 : 0 < s.size := by omega
  have hlast : s.size - 1 < s.size := by omega
  have h2i : 2 ≤ (s.size : Int) := by omega
  have h2d : decide ((s.size : Int) < 2) = false := decide_eq_false (by omega)
  cases hb0 : (((s[0]'h0).toNat : Int) != 40)
  rotate_left
  · have hr := Lib.hid (show splitR s.data.toList = none by
      rw [splitR, if_neg]
      rintro ⟨_, h, _⟩
      rw [head_at s h0] at h
      exact byte_ne (x := 40) (by decide) hb0 (Option.some.inj h))
    go_enter Tryz.func36, Tryz.ntmps36
    go_wp2_with fail
    go_ret2
    exact splitR_end hr.out (Below.refl _ _)
  cases hb1 : (((s[s.size - 1]'hlast).toNat : Int) != 41)
  rotate_left
  · have hr := Lib.hid (show splitR s.data.toList = none by
      rw [splitR, if_neg]
      rintro ⟨_, _, h⟩
      rw [last_at hlast] at h
      exact byte_ne (x := 41) (by decide) hb1 (Option.some.inj h))
    go_enter Tryz.func36, Tryz.ntmps36
    go_wp2_with fail
    go_ret2
    exact splitR_end hr.out (Below.refl _ _)
  have hin := inner_extract s
  have hsp : splitR s.data.toList = if (s.extract 1 (s.size - 1)).data.toList = [] then some [] else splitL ((s.extract 1 (s.size - 1)).data.toList.length + 1) (s.extract 1 (s.size - 1)).data.toList := by
    rw [splitR, if_pos ⟨by simp; omega, by rw [head_at s h0, byte_is (x := 40) (by decide) hb0], by rw [last_at hlast, byte_is (x := 41) (by decide) hb1]⟩, hin]
  clear hin
  have hqs : (s.extract 1 (s.size - 1)).size ≤ 1048576 := by rw [ByteArray.size_extract]; omega
  by_cases hq0 : (s.extract 1 (s.size - 1)).size = 0
  · have hr := Lib.hid (show splitR s.data.toList = some [] by
      rw [hsp, if_pos (by rw [size_eq] at hq0; exact List.eq_nil_of_length_eq_zero hq0)])
    have HQ := Lib.hid hq0
    clear hsp hq0 hqs
    go_enter Tryz.func36, Tryz.ntmps36
    go_wp2_with fail
    go_loopw [0, 4] (fun q o wr => ∃ q' : ByteArray, q = .string q' ∧ o = .slice none 0 0 ∧ Hid (q'.size = 0) ∧ wr = w) (fun q _ _ => strLen q)
    case atStart => exact ⟨_, rfl, rfl, HQ, rfl⟩
    case round =>
      obtain ⟨q, rfl, rfl, hq, rfl⟩ := hrel
      cases hqe : q.toList.isEmpty
      · have := nonempty_of hqe
        have h := hq.out
        rw [size_eq] at h
        exact absurd (List.eq_nil_of_length_eq_zero h) this
      · go_wp2_with fail
        go_ret2
        exact ⟨Below.refl _ _, .inr ⟨[], none, 0, hr.out, .inl rfl, rfl⟩⟩
  · rw [if_neg (fun e => hq0 (by rw [size_eq, e]; rfl))] at hsp
    have hst : Hid (SSt w (s.extract 1 (s.size - 1)).data.toList [] (s.extract 1 (s.size - 1)) none 0 w) := SSt.start hqs (by omega)
    obtain ⟨l0, hl0⟩ : ∃ l0, l0 = (s.extract 1 (s.size - 1)).data.toList := ⟨_, rfl⟩
    rw [← hl0] at hst hsp
    have HSP := Lib.hid hsp
    clear hl0 hsp hq0 hqs
    go_enter Tryz.func36, Tryz.ntmps36
    go_wp2_with fail
    go_loopw [0, 4] (fun q o wr => ∃ (q' : ByteArray) (ps : List ByteArray) (ao : Option Addr) (cp : Nat), q = .string q' ∧ o = .slice ao ps.length cp ∧ Hid (SSt w l0 ps q' ao cp wr)) (fun q _ _ => strLen q)
    case atStart => exact ⟨_, [], none, 0, rfl, rfl, hst⟩
    case round =>
      clear hst
      obtain ⟨q, ps, ao, cp, rfl, rfl, HS⟩ := hrel
      have hfew := HS.out.few
      rcases HS.out.empty with hqe | ⟨hqe, hps⟩
      all_goals
        go_wp2_with fail
        go_loopw [5] (fun i w2 => ∃ m : Nat, m ≤ q.size ∧ i = .int .i64 m ∧ Hid ((q.data.toList.take m).all notComma = true) ∧ w2 = wr) (fun i _ => q.size - (intOf i).toNat)
        case atStart => exact ⟨0, Nat.zero_le _, rfl, rfl, rfl⟩
        case round =>
          obtain ⟨m, hms, rfl, hall, rfl⟩ := hrel
          by_cases hlt : m < q.size
          · have hbm := (q[m]'hlt).toNat_lt
            cases hx : (((q[m]'hlt).toNat : Int) != 44)
            · have hst := Lib.hid (stop_at hall.out hlt (notComma_at hx))
              have hmne : ((m : Int) == (q.size : Int)) = false := by rw [beq_eq_false_iff_ne]; omega
              go_wp2_with fail
              refine (Is_ref _ (by rw [ByteArray.size_extract]; omega) _).mono ?_
              rintro e w2 ⟨rfl, hb2⟩
              have HS2 := Lib.hid (HS.out.under hb2)
              clear hb2
              rw [front_extract]
              cases hty : (readR (q.data.toList.take m)).isSome
              · have hy := Lib.hid (HSP.out.trans (HS.out.notTy (show isTyR (q.data.toList.takeWhile notComma) = false by rw [hst.out.1]; exact hty)))
                go_wp2_with fail
                go_ret2
                exact splitR_end hy.out HS2.out.bel
              · have HTY := Lib.hid hty
                by_cases hm1 : m + 1 < q.size
                · have hb32 := (q[m + 1]'hm1).toNat_lt
                  cases h32 : (((q[m + 1]'hm1).toNat : Int) != 32)
                  · have h32e := byte_is (x := 32) (by decide) h32
                    have H32 := Lib.hid h32e
                    clear h32e
                    go_wp2_with (at_builtin; refine wp_append_str rfl _ _ rfl HS2.out.own HS2.out.bel.size (by omega) rfl rfl ?_; intro ao' c' w3 hown hbel; have HOWN := Lib.hid hown; have HBEL := Lib.hid hbel; clear hown hbel)
                    go_roundw
                    case rel => exact ⟨_, ps ++ [q.extract 0 m], ao', c', rfl, by rw [List.length_append, List.length_singleton], HS2.out.next hm1 hst.out HTY.out H32.out HOWN.out HBEL.out⟩
                    case measure => simp only [strLen, ByteArray.size_extract]; omega
                  · have hy := Lib.hid (HSP.out.trans (HS.out.noGap (by rw [hst.out.2]; simp) (by
                      rw [hst.out.2, List.tail_cons, List.drop_eq_getElem_cons (by simpa using hm1), List.head?_cons]
                      exact fun h => byte_ne (x := 32) (by decide) h32 (Option.some.inj h))))
                    go_wp2_with (at_builtin; refine wp_append_str rfl _ _ rfl HS2.out.own HS2.out.bel.size (by omega) rfl rfl ?_; intro ao' c' w3 hown hbel; have HBEL := Lib.hid (HS2.out.bel.trans hbel); clear hown hbel)
                    go_ret2
                    exact splitR_end hy.out HBEL.out
                · have hy := Lib.hid (HSP.out.trans (HS.out.noGap (by rw [hst.out.2]; simp) (by
                    rw [hst.out.2, List.tail_cons, List.drop_of_length_le (by simp; omega)]
                    simp)))
                  go_wp2_with (at_builtin; refine wp_append_str rfl _ _ rfl HS2.out.own HS2.out.bel.size (by omega) rfl rfl ?_; intro ao' c' w3 hown hbel; have HBEL := Lib.hid (HS2.out.bel.trans hbel); clear hown hbel)
                  go_ret2
                  exact splitR_end hy.out HBEL.out
            · have hnx := Lib.hid (notComma_at hx)
              go_wp2_with fail
              go_roundw
              case rel => exact ⟨m + 1, by omega, by go_num, all_step hall.out hlt hnx.out, trivial⟩
              case measure => simp [intOf]; omega
          · obtain rfl : m = q.size := by omega
            have hal := hall.out
            rw [List.take_of_length_le (by simp)] at hal
            have HAL := Lib.hid hal
            clear hal
            go_wp2_with fail
            refine (Is_ref q (by omega) _).mono ?_
            rintro e w2 ⟨rfl, hb2⟩
            have HS2 := Lib.hid (HS.out.under hb2)
            clear hb2
            cases hty : (readR q.data.toList).isSome
            · have hy := Lib.hid (HSP.out.trans (HS.out.notTy (show isTyR (q.data.toList.takeWhile notComma) = false by rw [(tw_all HAL.out).1]; exact hty)))
              go_wp2_with fail
              go_ret2
              exact splitR_end hy.out HS2.out.bel
            · have hy := Lib.hid (HSP.out.trans (HS.out.last hty HAL.out))
              go_wp2_with (at_builtin; refine wp_append_str rfl _ _ rfl HS2.out.own HS2.out.bel.size (by omega) rfl rfl ?_; intro ao' c' w3 hown hbel; have HST := Lib.hid (own_strs hown rfl); have HBEL := Lib.hid (HS2.out.bel.trans hbel); clear hown hbel)
              go_ret2
              exact splitR_yes hy.out HBEL.out HST.out (by simp only [decide_eq_decide]; omega)

theorem SplitR_some (s : ByteArray) (hs : s.size ≤ 1048576) (w : World) : Calls Tryz.prog 36 #[.string s] w fun e w' => Below w.heap.size w w' ∧ ((splitR s.data.toList = none ∧ e = .returned (.tuple #[.slice none 0 0, .bool false])) ∨
    ∃ (ps : List ByteArray) (ao : Option Addr) (c : Nat), splitR s.data.toList = some (ps.map (·.data.toList)) ∧ StrsAt w' ao ps ∧ e = .returned (.tuple #[.slice ao ps.length c, .bool (decide (ps.length ≤ 100))])) := SplitR_any s hs w
end Go.Proofs.YtjkhjflemcljdaaGreatDoor
