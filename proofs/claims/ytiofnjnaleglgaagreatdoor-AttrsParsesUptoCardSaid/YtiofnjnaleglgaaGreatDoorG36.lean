/-
  Texts of mine in one file: AtPB.
-/
import Derived.Test.YtiofnjnaleglgaaGreatDoorG35
import Derived.Test.YtiofnjnaleglgaaGreatDoorG26
import Derived.Test.YtiofnjnaleglgaaGreatDoorG10
import Derived.Sort.CutIn
import Derived.Lib.TrimU
import Derived.Stop.RegionWithIn
/-
  'items': what stands between the commas that part a list's text: its iterator's contract.
-/
namespace Go.Proofs.YtiofnjnaleglgaaGreatDoor
open Go.RowKit Go.Shelf Go.BigFrame
attribute [local go_sem] Oper.semAt_some

/-- What a round that goes on keeps: every walk, and every block of cells that holds no attributes and no list of them. -/
def KeepE (W W' : World) : Prop := W.heap.size ≤ W'.heap.size ∧ ∀ (k : Nat) (o : Obj), W.heap[k]? = some o → (o.isWalk = true ∨ ∃ cs t fr, o = .cells cs t fr ∧ t ≠ 29 ∧ t ≠ 22) → W'.heap[k]? = some o
/-- What the iterator turns. -/
def TurnE (o : Obj) : Prop := o.isWalk = true ∨ (∃ n, o = .cells #[.int .i32 n] 21 (0, 0)) ∨ ∃ b, o = .cells #[.bool b] 4 (0, 0)
theorem KeepE.refl (W : World) : KeepE W W := ⟨Nat.le_refl _, fun _ _ h _ => h⟩
theorem KeepE.trans {A B C : World} (h : KeepE A B) (k : KeepE B C) : KeepE A C := ⟨Nat.le_trans h.1 k.1, fun i o hi ho => k.2 i o (h.2 i o hi ho) ho⟩
theorem KeepE.cells {W W' : World} (h : KeepE W W') {k : Nat} {cs : Array Value} {t : TypeId} {fr : Nat × Nat} (hk : W.heap[k]? = some (.cells cs t fr)) (h1 : t ≠ 29) (h2 : t ≠ 22) : W'.heap[k]? = some (.cells cs t fr) :=
  h.2 k _ hk (.inr ⟨cs, t, fr, rfl, h1, h2⟩)
theorem KeepE.enc {W W' : World} (h : KeepE W W') {b1 b2 b3 bm : Nat} {s : Nat × Bool} (he : EncAt W b1 b2 b3 bm s) : EncAt W' b1 b2 b3 bm s := by
  obtain ⟨es, cl, hm⟩ := he.mapAt
  exact he.moved ((h.2 _ _ hm (.inl rfl)).trans hm.symm) ((h.cells he.c1 (by decide) (by decide)).trans he.c1.symm) ((h.cells he.c2 (by decide) (by decide)).trans he.c2.symm) ((h.cells he.c3 (by decide) (by decide)).trans he.c3.symm)

/-- A piece of a text. -/
abbrev Piece (body : ByteArray) := { x : ByteArray // x.size ≤ body.size }
def bytesOf {body : ByteArray} (ys : List (Piece body)) : List (List UInt8) := ys.map fun x => x.1.data.toList
def PartsOf (body : ByteArray) (ys : List (Piece body)) : Prop := ∀ ps, Canon body.data.toList ps → bytesOf ys = ps
def PartsPre (body : ByteArray) (ys : List (Piece body)) : Prop := ∀ ps, Canon body.data.toList ps → bytesOf ys <+: ps

/-- How far the pieces have been told apart. -/
def ToldAt (body : ByteArray) (pre : List (Piece body)) (start pos : Nat) (s : Nat × Bool) : Prop := ∀ ps, Canon body.data.toList ps → ∃ j p todo, ps = bytesOf pre ++ p :: todo ∧ Told body.data.toList (bytesOf pre) start j s p todo ∧ pos = start + j
section
variable {body : ByteArray} {pre : List (Piece body)} {start pos : Nat} {s : Nat × Bool}
theorem ToldAt.begin : ToldAt body [] 0 0 (0, false) := by
  intro ps hc
  cases ps with
  | nil => exact absurd rfl hc.ne
  | cons p todo => exact ⟨0, p, todo, rfl, Told.start hc, rfl⟩
theorem told_clean {ps : List (List UInt8)} (hc : Canon body.data.toList ps) {a todo : List (List UInt8)} {p : List UInt8} (h : ps = a ++ p :: todo) : clean p := hc.all p (by rw [h]; simp)
theorem told_low {ps : List (List UInt8)} (hc : Canon body.data.toList ps) {c : UInt8} (h : body.data.toList[pos]? = some c) : c.toNat < 128 := hc.low c (List.mem_of_getElem? h)
/-- A character that does not part. -/
theorem ToldAt.go (h : ToldAt body pre start pos s) {c : UInt8} {cc wd : Nat} (hc : body.data.toList[pos]? = some c) (hasc : c.toNat < 128 → (cc, wd) = (c.toNat, 1)) (hn : ¬ ((encStep s cc).1 = 0 ∧ cc = 44)) : ToldAt body pre start (pos + wd) (encStep s cc) := by
  intro ps hcan
  obtain ⟨j, p, todo, he, ht, hp⟩ := h ps hcan
  have hcl := told_clean hcan he
  have hlo := told_low hcan hc
  have e := hasc hlo
  injection e with e1 e2
  subst e1 e2
  have hle := ht.le
  by_cases hj : j < p.length
  · have hch := ht.char hj
    rw [← hp, hc] at hch
    obtain ⟨_, ht'⟩ := ht.step hcl hch.symm
    exact ⟨j + 1, p, todo, he, ht', by omega⟩
  · have hjp : j = p.length := by omega
    subst hjp
    rcases ht.behind hcl with ⟨_, hlen, _⟩ | ⟨q, t, _, hch, hst, _, _⟩
    · have := (List.getElem?_eq_some_iff.1 hc).1
      omega
    · rw [← hp, hc] at hch
      injection hch with hch
      subst hch
      exact absurd ⟨by rw [show (44 : UInt8).toNat = 44 from rfl, hst], rfl⟩ hn
/-- A comma that parts. -/
theorem ToldAt.part (h : ToldAt body pre start pos s) {c : UInt8} (hc : body.data.toList[pos]? = some c) (h44 : c.toNat = 44) (hn : (encStep s 44).1 = 0) (x : Piece body) (hx : x.1.data.toList = (body.data.toList.drop start).take (pos - start)) :
    ToldAt body (pre ++ [x]) (pos + 1) (pos + 1) (encStep s 44) := by
  intro ps hcan
  obtain ⟨j, p, todo, he, ht, hp⟩ := h ps hcan
  have hcl := told_clean hcan he
  have hle := ht.le
  by_cases hj : j < p.length
  · have hch := ht.char hj
    rw [← hp, hc] at hch
    obtain ⟨hno, _⟩ := ht.step hcl hch.symm
    rw [h44] at hno
    exact absurd ⟨hn, rfl⟩ hno
  · have hjp : j = p.length := by omega
    subst hjp
    rcases ht.behind hcl with ⟨_, hlen, _⟩ | ⟨q, t, hq, hch, hst, htk, htn⟩
    · have := (List.getElem?_eq_some_iff.1 hc).1
      omega
    · have hxp : x.1.data.toList = p := by rw [hx, ← htk]; congr 1; omega
      have hb : bytesOf (pre ++ [x]) = bytesOf pre ++ [p] := by unfold bytesOf; rw [List.map_append, List.map_cons, List.map_nil, hxp]
      refine ⟨0, q, t, by rw [he, hq, hb, List.append_assoc]; rfl, ?_, by omega⟩
      rw [hst, hb, hp]
      exact htn
/-- The end of the text. -/
theorem ToldAt.last (h : ToldAt body pre start pos s) (hp : ¬ pos < body.data.toList.length) (x : Piece body) (hx : x.1.data.toList = body.data.toList.drop start) : PartsOf body (pre ++ [x]) := by
  intro ps hcan
  obtain ⟨j, p, todo, he, ht, hpj⟩ := h ps hcan
  have hcl := told_clean hcan he
  have hle := ht.le
  have hj : ¬ j < p.length := fun hj => by
    have hch := ht.char hj
    rw [List.getElem?_eq_getElem hj] at hch
    have := (List.getElem?_eq_some_iff.1 hch).1
    omega
  have hjp : j = p.length := by omega
  subst hjp
  rcases ht.behind hcl with ⟨hnil, _, hdr⟩ | ⟨q, t, _, hch, _⟩
  · have hxp : x.1.data.toList = p := by rw [hx, hdr]
    unfold bytesOf
    rw [List.map_append, List.map_cons, List.map_nil, hxp, he, hnil]
    rfl
  · have := (List.getElem?_eq_some_iff.1 hch).1
    omega
theorem PartsOf.isPre {ys : List (Piece body)} (h : PartsOf body ys) : PartsPre body ys := fun ps hc => by rw [h ps hc]; exact List.prefix_refl _
theorem ToldAt.prefix {x : Piece body} {st' po' : Nat} {s' : Nat × Bool} (h : ToldAt body (pre ++ [x]) st' po' s') : PartsPre body (pre ++ [x]) := fun ps hc => by
  obtain ⟨j, p, todo, he, _, _⟩ := h ps hc
  exact ⟨p :: todo, he.symm⟩
end

theorem EncAt.put {W : World} {b1 b2 b3 bm : Nat} {s : Nat × Bool} (h : EncAt W b1 b2 b3 bm s) {r : Nat} {t : ByteArray} {p : Nat} (hi : W.heap[r]? = some (.stringIter t p)) (o : Obj) : EncAt (W.putObj r o) b1 b2 b3 bm s := by
  obtain ⟨es, cl, hm⟩ := h.mapAt
  have ne : ∀ {k : Nat} {o' : Obj}, W.heap[k]? = some o' → (∀ t p, o' ≠ .stringIter t p) → (W.putObj r o).heap[k]? = W.heap[k]? := fun hk hn => World.putObj_heap_other (fun e => by subst e; rw [hi] at hk; cases hk; exact hn _ _ rfl)
  exact h.moved (ne hm (fun _ _ e => by cases e)) (ne h.c1 (fun _ _ e => by cases e)) (ne h.c2 (fun _ _ e => by cases e)) (ne h.c3 (fun _ _ e => by cases e))
/-- What the function of the brackets turns. -/
theorem enc_turn {W X : World} {b1 b2 b3 bm : Nat} {s : Nat × Bool} (h : EncAt W b1 b2 b3 bm s) {r : Nat} (hr : r = b2 ∨ r = b3) (hg : W.grownBy X (some r)) {k : Nat} {o : Obj} (hk : W.heap[k]? = some o) (h2 : ∀ n, o ≠ .cells #[.int .i32 n] 21 (0, 0)) (h3 : ∀ v, o ≠ .cells #[.bool v] 4 (0, 0)) : X.heap[k]? = some o := by
  refine (hg.block k (lt_of_block hk) (fun e => ?_)).trans hk
  injection e with e
  subst e
  rcases hr with rfl | rfl
  · rw [h.c2] at hk; cases hk; exact h2 _ rfl
  · rw [h.c3] at hk; cases hk; exact h3 _ rfl
theorem enc_may {W : World} {b1 b2 b3 bm : Nat} {s : Nat × Bool} (h : EncAt W b1 b2 b3 bm s) {B : Nat} (h2 : B ≤ b2) (h3 : B ≤ b3) {r : Nat} (hr : r = b2 ∨ r = b3) : ∀ r', some r = some r' → B ≤ r' ∧ ∃ o : Obj, W.heap[r']? = some o ∧ TurnE o := by
  intro r' e
  injection e with e
  subst e
  rcases hr with rfl | rfl
  · exact ⟨h2, _, h.c2, .inr (.inl ⟨_, rfl⟩)⟩
  · exact ⟨h3, _, h.c3, .inr (.inr ⟨_, rfl⟩)⟩

/-- What the iterator ends in. -/
def ItemsEnd (body : ByteArray) (J Jx : List (Piece body) → World → Prop) (e : Ending) (W' : World) : Prop :=
  (∃ v, e = .returned v) ∧ ((∃ ys, PartsOf body ys ∧ J ys W') ∨ (∃ pre, PartsPre body pre ∧ Jx pre W'))

set_option maxRecDepth 100000 in
set_option maxHeartbeats 4000000 in
theorem items1_in (n : Nat) (hn : 1 ≤ n) (q S : Nat) (body : ByteArray) (hbs : body.size ≤ 140737488355327) (J Jx : List (Piece body) → World → Prop) (W : World)
    (hA : ∀ s X Y row, J s X → X.grownBy Y row → (∀ r, row = some r → W.heap.size ≤ r ∧ ∃ o : Obj, X.heap[r]? = some o ∧ TurnE o) → J s Y)
    (hY : ∀ pre (x : Piece body) W1, J pre W1 → pre.length < body.size + 1 → YieldAt Fence.wide (n - 1) Tryz.prog q #[.string x.1] W1 fun e W' =>
      (e = .returned (.bool true) ∧ J (pre ++ [x]) W' ∧ KeepE W1 W') ∨ (e = .returned (.bool false) ∧ Jx (pre ++ [x]) W'))
    (hS : W.heap[S]? = some (.cells #[.string body] 9 (0, 0))) (h0 : J [] W) :
    CallsIn Fence.wide n Tryz.prog 114 #[.func (.yield q) #[] #[], .pointer (some ⟨S, 0, none⟩)] W (ItemsEnd body J Jx) := by
  have HA := Lib.hid hA
  have HY := Lib.hid hY
  have H0 := Lib.hid h0
  have HS := Lib.hid hS
  clear hA hY h0 hS
  refine callsIn_of_wp Tryz.func114 rfl trivial ?_ rfl
  simp only [Tryz.ntmps114, List.size_toArray, List.length_cons, List.length_nil, Nat.reduceAdd, Nat.reduceSub, Array.replicate_succ, Array.replicate_zero, List.push_toArray, List.append_toArray, List.nil_append, List.cons_append]
  gi_wp2_with fail
  refine ⟨trivial, callsIn_wide.2 ((enclosure_any _).mono ?_)⟩
  rintro e w1 ⟨b1, b2, b3, bm, rfl, henc, hlo2, hlo3, hb1⟩
  have HENC := Lib.hid henc
  have HLO := Lib.hid (And.intro hlo2 hlo3)
  have HB1 := Lib.hid hb1
  have HS1 := Lib.hid ((hb1.block S (lt_of_block HS.out)).trans HS.out)
  have HJ1 := Lib.hid (HA.out [] W w1 none H0.out ⟨hb1.os, hb1.tape, hb1.output, hb1.size, fun k hk _ => hb1.block k hk⟩ (fun r e => by cases e))
  clear henc hlo2 hlo3 hb1
  have c0 : w1.cell? ⟨S, 0, none⟩ = some (.string body) := cell_of_row w1 S 0 _ _ _ HS1.out
  gi_wp2_with fail
  gi_loopw [3] (fun st wr => ∃ (start pos : Nat) (pre : List (Piece body)) (s : Nat × Bool), st = .int .i64 start ∧ wr.heap[w1.heap.size]? = some (.stringIter body pos) ∧ Hid (start ≤ pos ∧ start ≤ body.size ∧ pre.length ≤ start ∧ J pre wr ∧ EncAt wr b1 b2 b3 bm s ∧ wr.heap[S]? = some (.cells #[.string body] 9 (0, 0)) ∧ ToldAt body pre start pos s)) (fun _ wr => body.size - wr.iterPos w1.heap.size)
  case atStart =>
    have G0 := World.grownBy_alloc w1 (.stringIter body 0) none
    exact ⟨0, 0, [], (0, false), rfl, World.iter_heap w1 body 0, Nat.le_refl _, Nat.zero_le _, Nat.le_refl _, HA.out [] w1 _ none HJ1.out G0 (fun r e => by cases e),
      HENC.out.moved (G0.block _ (by obtain ⟨es, cl, hm⟩ := HENC.out.mapAt; exact lt_of_block hm) (fun e => by cases e)) (G0.block _ (lt_of_block HENC.out.c1) (fun e => by cases e)) (G0.block _ (lt_of_block HENC.out.c2) (fun e => by cases e)) (G0.block _ (lt_of_block HENC.out.c3) (fun e => by cases e)),
      (G0.block _ (lt_of_block HS1.out) (fun e => by cases e)).trans HS1.out, ToldAt.begin⟩
  case round =>
    obtain ⟨start, pos, pre, s, rfl, hit, hh⟩ := hrel
    have cS : wr.cell? ⟨S, 0, none⟩ = some (.string body) := cell_of_row wr S 0 _ _ _ hh.out.2.2.2.2.2.1
    clear c0
    have hstart : (start : Int) ≤ (body.size : Int) := by have := hh.out.2.1; omega
    by_cases hp : pos < body.size
    rotate_left
    · have hnx : ∀ ty, (Instr.next (.pointer (some ⟨w1.heap.size, 0, none⟩)) true ty).run Tryz.prog wr = .ok (.tuple #[.bool false]) wr := fun ty => run_next_over wr _ body pos ty hit hp
      clear hit
      obtain ⟨x, hx⟩ : ∃ x : Piece body, x.1 = body.extract start body.size := ⟨⟨body.extract start body.size, by rw [ByteArray.size_extract]; omega⟩, rfl⟩
      have HL := Lib.hid (hh.out.2.2.2.2.2.2.last (by rw [← size_eq]; exact hp) x (by rw [hx, back_extract]))
      obtain ⟨fn, tmps, assign, bd, hyd, hR⟩ := HY.out pre x wr hh.out.2.2.2.1 (by have := hh.out; omega)
      have HR := Lib.hid hR
      clear hR
      rw [hx] at hyd
      gi_wp2_with fail
      refine HR.out.mono ?_
      rintro e W3 (⟨rfl, hJ3, hk3⟩ | ⟨rfl, hJx3⟩)
      · have HJ3 := Lib.hid hJ3
        clear hJ3 hk3
        gi_wp2_with fail
        refine bodyPost_ret (results_none rfl _ _ _) rfl ?_
        exact ⟨⟨_, rfl⟩, .inl ⟨_, HL.out, HJ3.out⟩⟩
      · have HJ3 := Lib.hid hJx3
        clear hJx3
        gi_wp2_with fail
        refine bodyPost_ret (results_none rfl _ _ _) rfl ?_
        exact ⟨⟨_, rfl⟩, .inr ⟨_, HL.out.isPre, HJ3.out⟩⟩
    · have hnx : ∀ ty, (Instr.next (.pointer (some ⟨w1.heap.size, 0, none⟩)) true ty).run Tryz.prog wr = _ := fun ty => run_next_at wr _ body pos ty hit hp
      have hit2 : (wr.putObj w1.heap.size (.stringIter body (pos + (Utf8.decode body pos).2))).heap[w1.heap.size]? = some (.stringIter body (pos + (Utf8.decode body pos).2)) := World.putObj_heap_same (lt_of_block hit)
      have hmeas := Lib.hid (show wr.iterPos w1.heap.size = pos by unfold World.iterPos; rw [hit])
      have hE2 := hh.out.2.2.2.2.1.put hit (.stringIter body (pos + (Utf8.decode body pos).2))
      have hS2 : (wr.putObj w1.heap.size (.stringIter body (pos + (Utf8.decode body pos).2))).heap[S]? = some (.cells #[.string body] 9 (0, 0)) := (World.putObj_heap_other (fun e => by
        have h1 := hh.out.2.2.2.2.2.1
        rw [e, hit] at h1
        cases h1)).trans hh.out.2.2.2.2.2.1
      have hJ2 := HA.out pre wr _ (some w1.heap.size) hh.out.2.2.2.1 (grownBy_putObj' wr w1.heap.size (.stringIter body (pos + (Utf8.decode body pos).2))) (fun r e => by
        cases e
        exact ⟨HB1.out.size, _, hit, .inl rfl⟩)
      obtain ⟨W2, hW2⟩ : ∃ W2, W2 = wr.putObj w1.heap.size (.stringIter body (pos + (Utf8.decode body pos).2)) := ⟨_, rfl⟩
      rw [← hW2] at hnx hit2 hE2 hS2 hJ2
      clear hW2 hit
      have hge : body.data.toList[pos]? = some (body[pos]'hp) := by rw [List.getElem?_eq_getElem (by rw [← size_eq]; exact hp)]; rfl
      have hasc := decode_ascii body pos hp
      have hhigh := decode_high body pos hp
      have hwid := width_pos body pos hp
      have hmax := Lib.rune_le body pos
      have HIT2 := Lib.hid hit2
      have HE2 := Lib.hid hE2
      have HS2 := Lib.hid hS2
      have HJ2 := Lib.hid hJ2
      have HH := Lib.hid (And.intro hh.out.1 (And.intro hh.out.2.1 (And.intro hh.out.2.2.1 hh.out.2.2.2.2.2.2)))
      clear hit2 hE2 hS2 hJ2 hh cS
      generalize body[pos]'hp = c0 at hge hasc hhigh
      generalize Utf8.decode body pos = cw at hnx HIT2 hasc hhigh hwid hmax
      obtain ⟨cc, wd⟩ := cw
      dsimp only at hnx HIT2 hasc hhigh hwid hmax
      gi_wp2_with fail
      refine ⟨trivial, callsIn_wide.2 ((enc1_any b1 b2 b3 bm s cc hmax W2 HE2.out).mono ?_)⟩
      rintro e W3 ⟨rfl, henc3, r, hr, hg3⟩
      have HE3 := Lib.hid henc3
      have HIT3 := Lib.hid (enc_turn HE2.out hr hg3 HIT2.out (fun n e => by cases e) (fun v e => by cases e))
      have HS3 := Lib.hid (enc_turn HE2.out hr hg3 HS2.out (fun n e => by injection e with e; injection e with e; injection e with e; cases e) (fun n e => by injection e with e; injection e with e; injection e with e; cases e))
      have HJ3 := Lib.hid (HA.out pre W2 W3 (some r) HJ2.out hg3 (enc_may HE2.out HLO.out.1 HLO.out.2 hr))
      clear henc3 hr hg3 HE2 HIT2 HS2 HJ2 hnx
      have hgo : ¬ ((encStep s cc).1 = 0 ∧ cc = 44) → Hid (start ≤ pos + wd ∧ start ≤ body.size ∧ pre.length ≤ start ∧ J pre W3 ∧ EncAt W3 b1 b2 b3 bm (encStep s cc) ∧ W3.heap[S]? = some (.cells #[.string body] 9 (0, 0)) ∧ ToldAt body pre start (pos + wd) (encStep s cc)) := fun hn =>
        ⟨by have := HH.out.1; omega, HH.out.2.1, HH.out.2.2.1, HJ3.out, HE3.out, HS3.out, HH.out.2.2.2.go hge hasc hn⟩
      have hmeas3 : Hid (body.size - W3.iterPos w1.heap.size < body.size - wr.iterPos w1.heap.size) := by
        have h1 : W3.iterPos w1.heap.size = pos + wd := by unfold World.iterPos; rw [HIT3.out]
        show _ < _
        rw [h1, hmeas.out]
        omega
      by_cases hz : (encStep s cc).1 = 0
      · have hb : (((encStep s cc).1 : Int) != 0) = false := by rw [hz]; rfl
        rw [hb]
        by_cases h44 : cc = 44
        · subst h44
          have hca : c0.toNat = 44 ∧ wd = 1 := by
            by_cases ha : c0.toNat < 128
            · have e := hasc ha
              injection e with e1 e2
              exact ⟨e1.symm, e2⟩
            · have := (hhigh (by omega)).1
              omega
          obtain ⟨hc44, rfl⟩ := hca
          obtain ⟨x, hx⟩ : ∃ x : Piece body, x.1 = body.extract start pos := ⟨⟨body.extract start pos, by rw [ByteArray.size_extract]; omega⟩, rfl⟩
          have HT := Lib.hid (HH.out.2.2.2.part hge hc44 hz x (by rw [hx, extract_toList, List.drop_take]))
          have hposs : (start : Int) ≤ (pos : Int) := by have := HH.out.1; omega
          have hposb : (pos : Int) ≤ (body.size : Int) := by omega
          have c0 : W3.cell? ⟨S, 0, none⟩ = some (.string body) := cell_of_row W3 S 0 _ _ _ HS3.out
          obtain ⟨fn, tmps, assign, bd, hyd, hR⟩ := HY.out pre x W3 HJ3.out (by have := HH.out; omega)
          have HR := Lib.hid hR
          clear hR hgo hge hasc hhigh
          rw [hx] at hyd
          gi_wp2_with fail
          refine HR.out.mono ?_
          rintro e W4 (⟨rfl, hJ4, hk4⟩ | ⟨rfl, hJx4⟩)
          · have HJ4 := Lib.hid hJ4
            have HK4 := Lib.hid hk4
            clear hJ4 hk4
            have hmeas4 : Hid (body.size - W4.iterPos w1.heap.size < body.size - wr.iterPos w1.heap.size) := by
              have h1 : W4.iterPos w1.heap.size = pos + 1 := by unfold World.iterPos; rw [HK4.out.2 _ _ HIT3.out (.inl rfl)]
              show _ < _
              rw [h1, hmeas.out]
              omega
            gi_wp2_with fail
            go_roundw
            case rel => exact ⟨pos + 1, pos + 1, pre ++ [x], encStep s 44, by simp, HK4.out.2 _ _ HIT3.out (.inl rfl), Nat.le_refl _, by omega, by have := HH.out; simp; omega, HJ4.out, HK4.out.enc HE3.out, HK4.out.cells HS3.out (by decide) (by decide), HT.out⟩
            case measure => exact hmeas4.out
          · have HJ4 := Lib.hid hJx4
            clear hJx4
            gi_wp2_with fail
            refine bodyPost_ret (results_none rfl _ _ _) rfl ?_
            exact ⟨⟨_, rfl⟩, .inr ⟨_, HT.out.prefix, HJ4.out⟩⟩
        · have hc44 : ¬ (cc : Int) = 44 := by omega
          have HG := hgo (fun h => h44 h.2)
          clear hgo hge hasc hhigh
          gi_wp2_with fail
          go_roundw
          case rel => exact ⟨start, pos + wd, pre, encStep s cc, rfl, HIT3.out, HG.out⟩
          case measure => exact hmeas3.out
      · have hb : (((encStep s cc).1 : Int) != 0) = true := by simpa using hz
        rw [hb]
        have HG := hgo (fun h => hz h.1)
        clear hgo hge hasc hhigh
        gi_wp2_with fail
        go_roundw
        case rel => exact ⟨start, pos + wd, pre, encStep s cc, rfl, HIT3.out, HG.out⟩
        case measure => exact hmeas3.out
end Go.Proofs.YtiofnjnaleglgaaGreatDoor

