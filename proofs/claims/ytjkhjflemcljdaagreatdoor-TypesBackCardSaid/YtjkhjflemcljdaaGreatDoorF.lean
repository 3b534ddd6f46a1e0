/-
  'readShape' by its contract, 'read' being met by a hypothesis at shorter strings.
-/
import Derived.Test.YtjkhjflemcljdaaGreatDoorE
namespace Go.Proofs.YtjkhjflemcljdaaGreatDoor
open Go.RowKit

/-- 'Env', whatever turns from block B on. -/
def EnvB (B : Nat) (w : World) : Prop := ∀ w', Below B w w' → Env w'
theorem Env.toB {w : World} (h : Env w) : EnvB w.heap.size w := fun _ hb => h.below hb
theorem EnvB.here {B : Nat} {w : World} (h : EnvB B w) : Env w := h w (Below.refl _ _)
theorem EnvB.step {B : Nat} {w w' : World} (h : EnvB B w) (hb : Below B w w') : EnvB B w' := fun _ h2 => h _ (hb.trans h2)
theorem EnvB.grown {B : Nat} {w w' : World} {r : Nat} (h : EnvB B w) (hg : w.grownBy w' (some r)) (hB : B ≤ w.heap.size) (hr : B ≤ r) : EnvB B w' := h.step (below_of_grown hg hB hr)
theorem EnvB.mono {B B' : Nat} {w : World} (h : EnvB B w) (hB : B ≤ B') : EnvB B' w := fun _ h2 => h _ (h2.mono hB)

/-- Whether a string is a number type. -/
def numB (l : List UInt8) : Bool :=
  decide (l.length ≤ 60) && (kindSpec l).2.1 && ((decide ((kindSpec l).1 = 1) && decide ((kindSpec l).2.2 = [])) ||
    (decide ((kindSpec l).1 = 0) && (numSpec ((kindSpec l).2.2.takeWhile bDigit) 1 64).2 && decide ((kindSpec l).2.2.dropWhile bDigit = [])))

/-- The extents: their number, the three of them, and what is left; nothing: they are not right. -/
def shapeLoop : Nat → List UInt8 → Nat → Int → Int → Int → Option (Nat × Int × Int × Int × List UInt8)
  | m, l, r, e0, e1, e2 =>
    if l.takeWhile bDigit = [] then some (r, e0, e1, e2, l.dropWhile bDigit)
    else if (numSpec (l.takeWhile bDigit) 0 1000).2 = false then none
    else if ¬ (l.dropWhile bDigit).takeWhile (bIs 120) = [120] then none
    else match m with
      | 0 => none
      | m + 1 => shapeLoop m ((l.dropWhile bDigit).dropWhile (bIs 120)) (r + 1)
          (if r = 0 then (numSpec (l.takeWhile bDigit) 0 1000).1 else e0) (if r = 1 then (numSpec (l.takeWhile bDigit) 0 1000).1 else e1) (if r = 2 then (numSpec (l.takeWhile bDigit) 0 1000).1 else e2)

def shapeSpec (l : List UInt8) : Option (Nat × Int × Int × Int × List UInt8 × List UInt8) :=
  if ¬ l.takeWhile (bIs 60) = [60] then none
  else match shapeLoop 3 (l.dropWhile (bIs 60)) 0 0 0 0 with
    | none => none
    | some (r, e0, e1, e2, l2) =>
      if numB (l2.takeWhile bPart) = false then none
      else if ¬ (l2.dropWhile bPart).takeWhile (bIs 62) = [62] then none
      else if prodN r e0 e1 e2 ≤ 4096 then some (r, e0, e1, e2, l2.takeWhile bPart, (l2.dropWhile bPart).dropWhile (bIs 62))
      else none

/-- What a string says as a type; kind and bits 0: none. -/
structure Desc where
  k : Int
  b : Int
  r : Nat
  e0 : Int
  e1 : Int
  e2 : Int
  el : List UInt8

def descZero : Desc := ⟨0, 0, 0, 0, 0, 0, []⟩
def descSpec (l : List UInt8) : Desc :=
  if 60 < l.length then descZero
  else if (kindSpec l).2.1 = false then descZero
  else if (kindSpec l).1 = 1 then (if (kindSpec l).2.2 = [] then ⟨1, 64, 0, 0, 0, 0, []⟩ else descZero)
  else if (kindSpec l).1 = 2 ∨ (kindSpec l).1 = 3 then
    match shapeSpec (kindSpec l).2.2 with
    | some (r, e0, e1, e2, el, q) => if q = [] then ⟨(kindSpec l).1, 0, r, e0, e1, e2, el⟩ else descZero
    | none => descZero
  else if (kindSpec l).1 = 4 then (if (foreignSpec (kindSpec l).2.2).1 = true ∧ (foreignSpec (kindSpec l).2.2).2 = [] then ⟨4, 0, 0, 0, 0, 0, []⟩ else descZero)
  else if (numSpec ((kindSpec l).2.2.takeWhile bDigit) 1 64).2 = true ∧ (kindSpec l).2.2.dropWhile bDigit = [] then ⟨0, (numSpec ((kindSpec l).2.2.takeWhile bDigit) 1 64).1, 0, 0, 0, 0, []⟩
  else descZero

def ReadPost (s : ByteArray) (w : World) (e : Ending) (w' : World) : Prop :=
  ∃ (k b : Int) (r : Nat) (e0 e1 e2 : Int) (el : ByteArray), e = .returned (.agg #[.int .i64 k, .int .i64 b, .int .i64 r, .int .i64 e0, .int .i64 e1, .int .i64 e2, .string el]) ∧
    descSpec s.data.toList = ⟨k, b, r, e0, e1, e2, el.data.toList⟩ ∧ Below w.heap.size w w'

/-- What 'readShape' holds between two steps: the reader's box, the result's block, the block of what was read. -/
structure Shp (w0 : World) (bl : Nat) (q : ByteArray) (kd : Int) (r : Nat) (e0 e1 e2 : Int) (el : ByteArray) (wr : World) : Prop where
  lt : bl < w0.heap.size
  box : wr.heap[bl]? = some (.cells #[.string q] 9 (0, 0))
  res : wr.heap[w0.heap.size]? = some (.cells #[.int .i64 0, .int .i64 0, .int .i64 0, .int .i64 0, .int .i64 0, .int .i64 0, .string ⟨#[]⟩] 76 (0, 0))
  dsc : wr.heap[w0.heap.size + 1]? = some (.cells #[.int .i64 kd, .int .i64 0, .int .i64 r, .int .i64 e0, .int .i64 e1, .int .i64 e2, .string el] 76 (0, 0))
  gr : w0.grownBy wr (some bl)
  env : EnvB bl wr

theorem Shp.grown {w0 : World} {bl : Nat} {q q' : ByteArray} {kd : Int} {r : Nat} {e0 e1 e2 : Int} {el : ByteArray} {wr w' : World} (h : Shp w0 bl q kd r e0 e1 e2 el wr)
    (hg : wr.grownBy w' (some bl)) (hb : w'.heap[bl]? = some (.cells #[.string q'] 9 (0, 0))) : Shp w0 bl q' kd r e0 e1 e2 el w' :=
  ⟨h.lt, hb, block_kept h.res hg (by have := h.lt; omega), block_kept h.dsc hg (by have := h.lt; omega), grown_trans h.gr hg, h.env.grown hg (by have := lt_of_block h.box; omega) (Nat.le_refl _)⟩
theorem Shp.below {w0 : World} {bl : Nat} {q : ByteArray} {kd : Int} {r : Nat} {e0 e1 e2 : Int} {el : ByteArray} {wr w' : World} (h : Shp w0 bl q kd r e0 e1 e2 el wr)
    (hb : Below wr.heap.size wr w') : Shp w0 bl q kd r e0 e1 e2 el w' :=
  h.grown ⟨hb.os, hb.tape, hb.output, hb.size, fun k hk _ => hb.block k hk⟩ ((hb.block bl (lt_of_block h.box)).trans h.box)
theorem Shp.alloc {w0 : World} {bl : Nat} {q : ByteArray} {kd : Int} {r : Nat} {e0 e1 e2 : Int} {el : ByteArray} {wr : World} (h : Shp w0 bl q kd r e0 e1 e2 el wr) (o : Obj) : Shp w0 bl q kd r e0 e1 e2 el (wr.alloc o) :=
  h.below ((Below.refl _ _).alloc (Nat.le_refl _) o)

def ShapePost (kd : Int) (bl : Nat) (s : ByteArray) (w : World) (e : Ending) (w' : World) : Prop :=
  (∃ (q : ByteArray), w'.heap[bl]? = some (.cells #[.string q] 9 (0, 0)) ∧ w.grownBy w' (some bl) ∧
    ∃ (r : Nat) (e0 e1 e2 : Int) (el : ByteArray), (e = .returned (.tuple #[.agg #[.int .i64 kd, .int .i64 0, .int .i64 r, .int .i64 e0, .int .i64 e1, .int .i64 e2, .string el], .bool false]) ∧ shapeSpec s.data.toList = none) ∨
      (e = .returned (.tuple #[.agg #[.int .i64 kd, .int .i64 0, .int .i64 r, .int .i64 e0, .int .i64 e1, .int .i64 e2, .string el], .bool true]) ∧ shapeSpec s.data.toList = some (r, e0, e1, e2, el.data.toList, q.data.toList)))


/-- The end of 'readShape': what was read goes into the result's block. -/
theorem shp_end {w : World} {bl : Nat} {s q : ByteArray} {kd : Int} {r : Nat} {e0 e1 e2 : Int} {el : ByteArray} {wr : World} (h : Shp w bl q kd r e0 e1 e2 el wr) (ok : Bool)
    (hs : (ok = false ∧ shapeSpec s.data.toList = none) ∨ (ok = true ∧ shapeSpec s.data.toList = some (r, e0, e1, e2, el.data.toList, q.data.toList))) :
    ShapePost kd bl s w (.returned (.tuple #[.agg #[.int .i64 kd, .int .i64 0, .int .i64 r, .int .i64 e0, .int .i64 e1, .int .i64 e2, .string el], .bool ok]))
      (((((((wr.setCell ⟨w.heap.size, 0, none⟩ (.int .i64 kd)).setCell ⟨w.heap.size, 1, none⟩ (.int .i64 0)).setCell ⟨w.heap.size, 2, none⟩ (.int .i64 r)).setCell ⟨w.heap.size, 3, none⟩ (.int .i64 e0)).setCell ⟨w.heap.size, 4, none⟩ (.int .i64 e1)).setCell ⟨w.heap.size, 5, none⟩ (.int .i64 e2)).setCell ⟨w.heap.size, 6, none⟩ (.string el)) := by
  refine ⟨q, (set7_other (by have := h.lt; omega)).trans h.box, set7_grown h.gr (Nat.le_refl _), r, e0, e1, e2, el, ?_⟩
  rcases hs with ⟨rfl, hs⟩ | ⟨rfl, hs⟩
  · exact .inl ⟨rfl, hs⟩
  · exact .inr ⟨rfl, hs⟩

/-- The rank and an extent are stored. -/
theorem Shp.set_el {w0 : World} {bl : Nat} {q : ByteArray} {kd : Int} {r : Nat} {e0 e1 e2 : Int} {el el' : ByteArray} {wr : World} (h : Shp w0 bl q kd r e0 e1 e2 el wr) :
    Shp w0 bl q kd r e0 e1 e2 el' (wr.setCell ⟨w0.heap.size + 1, 6, none⟩ (.string el')) := by
  have := h.lt
  refine ⟨h.lt, (heap_setCell_other _ _ _ _ (by dsimp only; omega)).trans h.box, (heap_setCell_other _ _ _ _ (by dsimp only; omega)).trans h.res, ?_, grown_setCell h.gr (by dsimp only; omega), ?_⟩
  · exact heap_setCell_same _ _ 6 _ _ _ h.dsc
  · exact h.env.step ((Below.refl _ _).setCell (by dsimp only; omega) _)
theorem Shp.set_ext {w0 : World} {bl : Nat} {q : ByteArray} {kd n : Int} {r : Nat} {e0 e1 e2 : Int} {el : ByteArray} {wr : World} (h : Shp w0 bl q kd r e0 e1 e2 el wr) (hr : r < 3) :
    Shp w0 bl q kd (r + 1) (if r = 0 then n else e0) (if r = 1 then n else e1) (if r = 2 then n else e2) el ((wr.setCell ⟨w0.heap.size + 1, 3 + r, none⟩ (.int .i64 n)).setCell ⟨w0.heap.size + 1, 2, none⟩ (.int .i64 (r + 1 : Nat))) := by
  have := h.lt
  refine ⟨h.lt, ?_, ?_, ?_, grown_setCell (grown_setCell h.gr (by dsimp only; omega)) (by dsimp only; omega), ?_⟩
  · rw [heap_setCell_other _ _ _ _ (by dsimp only; omega), heap_setCell_other _ _ _ _ (by dsimp only; omega)]; exact h.box
  · rw [heap_setCell_other _ _ _ _ (by dsimp only; omega), heap_setCell_other _ _ _ _ (by dsimp only; omega)]; exact h.res
  · have a := heap_setCell_same _ _ (3 + r) _ _ (.int .i64 n) h.dsc
    have b := heap_setCell_same _ _ 2 _ _ (.int .i64 (r + 1 : Nat)) a
    rw [b]
    rcases (show r = 0 ∨ r = 1 ∨ r = 2 by omega) with rfl | rfl | rfl <;> rfl
  · exact h.env.step (((Below.refl _ _).setCell (by dsimp only; omega) _).setCell (by dsimp only; omega) _)

def boxLen (b : Nat) (w : World) : Nat := match w.heap[b]? with | some (Obj.cells cs _ _) => (match cs[0]? with | some (Value.string q) => q.size | _ => 0) | _ => 0
theorem boxLen_of {b : Nat} {w : World} {q : ByteArray} {t : TypeId} (h : w.heap[b]? = some (.cells #[.string q] t (0, 0))) : boxLen b w = q.size := by
  simp [boxLen, h]

/-- What is asked behind the extents. -/
def shapeTail (z : Option (Nat × Int × Int × Int × List UInt8)) : Option (Nat × Int × Int × Int × List UInt8 × List UInt8) :=
  match z with
  | none => none
  | some (r, e0, e1, e2, l2) =>
    if numB (l2.takeWhile bPart) = false then none
    else if ¬ (l2.dropWhile bPart).takeWhile (bIs 62) = [62] then none
    else if prodN r e0 e1 e2 ≤ 4096 then some (r, e0, e1, e2, l2.takeWhile bPart, (l2.dropWhile bPart).dropWhile (bIs 62))
    else none
theorem shape_tail {l : List UInt8} {z : Option (Nat × Int × Int × Int × List UInt8)} (h : l.takeWhile (bIs 60) = [60]) (hz : shapeLoop 3 (l.dropWhile (bIs 60)) 0 0 0 0 = z) : shapeSpec l = shapeTail z := by
  rw [shapeSpec, if_neg (by simpa using h), hz]
  rfl

/-- What holds at the head of the loop over the extents. -/
structure Rnd (w0 : World) (bl : Nat) (kd : Int) (s0 D q : ByteArray) (r : Nat) (e0 e1 e2 : Int) (l : List UInt8) (wr : World) : Prop where
  shp : Shp w0 bl q kd r e0 e1 e2 ⟨#[]⟩ wr
  hr : r ≤ 3
  h0 : 0 ≤ e0 ∧ e0 ≤ 1000
  h1 : 0 ≤ e1 ∧ e1 ≤ 1000
  h2 : 0 ≤ e2 ∧ e2 ≤ 1000
  hD : D.data.toList = l.takeWhile bDigit
  hq : q.data.toList = l.dropWhile bDigit
  hl : l.length ≤ s0.size
  hs : shapeLoop (3 - r) l r e0 e1 e2 = shapeLoop 3 (s0.data.toList.dropWhile (bIs 60)) 0 0 0 0

theorem Rnd.Dsize {w0 : World} {bl : Nat} {kd : Int} {s0 D q : ByteArray} {r : Nat} {e0 e1 e2 : Int} {l : List UInt8} {wr : World} (h : Rnd w0 bl kd s0 D q r e0 e1 e2 l wr) : D.size ≤ s0.size := by
  rw [size_eq, h.hD]; have := takeWhile_len bDigit l; have := h.hl; omega

/-- 'only', its captured variable somewhere. -/
theorem only_some (x : Int) (w : World) : Calls Tryz.prog 79 #[.int .i32 x] w fun e w' =>
    ∃ bo : Nat, e = .returned (.func (.func 92) #[] #[.pointer (some ⟨bo, 0, none⟩)]) ∧ Hid (w'.cell? ⟨bo, 0, none⟩ = some (.int .i32 x)) ∧ Below w.heap.size w w' :=
  (only_any x w).mono fun e w' ⟨he, hw⟩ => ⟨w.heap.size, he, by rw [← hw]; exact cell_of_one (heap_alloc_new _ _), by rw [← hw]; exact (Below.refl _ _).alloc (Nat.le_refl _) _⟩

theorem number_some (d : ByteArray) (lo hi : Int) (hd : d.size ≤ 60) (w : World) (hE : Env w) :
    Calls Tryz.prog 82 #[.string d, .int .i64 lo, .int .i64 hi] w fun e w' => ∃ (n : Int) (ok : Bool), e = .returned (.tuple #[.int .i64 n, .bool ok]) ∧ Hid (numSpec d.data.toList lo hi = (n, ok)) ∧ Below w.heap.size w w' :=
  (number_any d lo hi hd w hE).mono fun _ _ ⟨he, hb⟩ => ⟨_, _, he, rfl, hb⟩

theorem numSpec_ok {l : List UInt8} {lo hi v : Int} (h : numSpec l lo hi = (v, true)) : lo ≤ v ∧ v ≤ hi := by
  unfold numSpec at h
  split at h
  · cases h
  · split at h
    · split at h
      · cases h; assumption
      · cases h
    · cases h

section
variable {D q r6 q6 : ByteArray} {l : List UInt8} {m r : Nat} {e0 e1 e2 n : Int}
theorem loop_bad (hne : ¬ D.data.toList = []) (hD : D.data.toList = l.takeWhile bDigit) (hn : numSpec D.data.toList 0 1000 = (n, false)) : shapeLoop m l r e0 e1 e2 = none := by
  rw [hD] at hne hn
  unfold shapeLoop
  rw [if_neg hne, hn, if_pos rfl]
theorem loop_nox (hne : ¬ D.data.toList = []) (hD : D.data.toList = l.takeWhile bDigit) (hn : numSpec D.data.toList 0 1000 = (n, true)) (hq : q.data.toList = l.dropWhile bDigit)
    (hr : r6.data.toList = q.data.toList.takeWhile (bIs 120)) (hx : ¬ r6.data.toList = [120]) : shapeLoop m l r e0 e1 e2 = none := by
  rw [hD] at hne hn
  rw [hr, hq] at hx
  unfold shapeLoop
  rw [if_neg hne, hn, if_neg (by simp), if_pos hx]
theorem loop_four (hne : ¬ D.data.toList = []) (hD : D.data.toList = l.takeWhile bDigit) (hn : numSpec D.data.toList 0 1000 = (n, true)) (hq : q.data.toList = l.dropWhile bDigit)
    (hr : r6.data.toList = q.data.toList.takeWhile (bIs 120)) (hx : r6.data.toList = [120]) : shapeLoop (3 - 3) l r e0 e1 e2 = none := by
  rw [hD] at hne hn
  rw [hr, hq] at hx
  unfold shapeLoop
  rw [if_neg hne, hn, if_neg (by simp), if_neg (by simpa using hx)]
  rfl
theorem loop_step (hne : ¬ D.data.toList = []) (hD : D.data.toList = l.takeWhile bDigit) (hn : numSpec D.data.toList 0 1000 = (n, true)) (hq : q.data.toList = l.dropWhile bDigit)
    (hr : r6.data.toList = q.data.toList.takeWhile (bIs 120)) (hx : r6.data.toList = [120]) (hq6 : q6.data.toList = q.data.toList.dropWhile (bIs 120)) :
    shapeLoop (m + 1) l r e0 e1 e2 = shapeLoop m q6.data.toList (r + 1) (if r = 0 then n else e0) (if r = 1 then n else e1) (if r = 2 then n else e2) := by
  rw [hD] at hne hn
  rw [hr, hq] at hx
  rw [hq] at hq6
  conv => lhs; unfold shapeLoop
  rw [if_neg hne, hn, if_neg (by simp), if_neg (by simpa using hx), ← hq6]
theorem loop_done (hne : D.data.toList = []) (hD : D.data.toList = l.takeWhile bDigit) (hq : q.data.toList = l.dropWhile bDigit) : shapeLoop m l r e0 e1 e2 = some (r, e0, e1, e2, q.data.toList) := by
  rw [hD] at hne
  unfold shapeLoop
  rw [if_pos hne, hq]
theorem shorter {p : UInt8 → Bool} {x : UInt8} (hr : r6.data.toList = q.data.toList.takeWhile p) (hq6 : q6.data.toList = q.data.toList.dropWhile p) (hx : r6.data.toList = [x]) : q6.size < q.size := by
  have := congrArg List.length (List.takeWhile_append_dropWhile (p := p) (l := q.data.toList))
  rw [List.length_append, ← hr, ← hq6, hx] at this
  rw [size_eq, size_eq q]
  simp at this
  simp
  omega
end

theorem Rnd.next {w0 : World} {bl : Nat} {kd : Int} {s0 D q r6 q6 : ByteArray} {r : Nat} {e0 e1 e2 n : Int} {l : List UInt8} {wr : World} (R : Rnd w0 bl kd s0 D q r e0 e1 e2 l wr)
    (hne : ¬ D.data.toList = []) (hn : numSpec D.data.toList 0 1000 = (n, true)) (hr6 : r6.data.toList = q.data.toList.takeWhile (bIs 120)) (hq6 : q6.data.toList = q.data.toList.dropWhile (bIs 120)) (hx : r6.data.toList = [120]) (hr : r < 3) :
    ∀ (D8 q8 : ByteArray) (w8 : World), Shp w0 bl q8 kd (r + 1) (if r = 0 then n else e0) (if r = 1 then n else e1) (if r = 2 then n else e2) ⟨#[]⟩ w8 → D8.data.toList = q6.data.toList.takeWhile bDigit → q8.data.toList = q6.data.toList.dropWhile bDigit →
      Rnd w0 bl kd s0 D8 q8 (r + 1) (if r = 0 then n else e0) (if r = 1 then n else e1) (if r = 2 then n else e2) q6.data.toList w8 := by
  intro D8 q8 w8 hS hD hq
  have hb := numSpec_ok hn
  refine ⟨hS, by omega, ?_, ?_, ?_, hD, hq, ?_, ?_⟩
  · split
    · exact hb
    · exact R.h0
  · split
    · exact hb
    · exact R.h1
  · split
    · exact hb
    · exact R.h2
  · rw [hq6, R.hq]; have := dropWhile_len (bIs 120) (l.dropWhile bDigit); have := dropWhile_len bDigit l; have := R.hl; omega
  · rw [← R.hs, show 3 - r = (3 - (r + 1)) + 1 from by omega, loop_step hne R.hD hn R.hq hr6 hx hq6]

section
variable {s q el q9 r13 q13 : ByteArray} {r : Nat} {e0 e1 e2 : Int}
theorem tail_nonum (ht : shapeSpec s.data.toList = shapeTail (some (r, e0, e1, e2, q.data.toList))) (hel : el.data.toList = q.data.toList.takeWhile bPart) (hn : numB el.data.toList = false) : shapeSpec s.data.toList = none := by
  rw [hel] at hn
  rw [ht, shapeTail, if_pos hn]
theorem tail_nogt (ht : shapeSpec s.data.toList = shapeTail (some (r, e0, e1, e2, q.data.toList))) (hel : el.data.toList = q.data.toList.takeWhile bPart) (hq9 : q9.data.toList = q.data.toList.dropWhile bPart) (hn : numB el.data.toList = true)
    (hr : r13.data.toList = q9.data.toList.takeWhile (bIs 62)) (hx : ¬ r13.data.toList = [62]) : shapeSpec s.data.toList = none := by
  rw [hel] at hn
  rw [hr, hq9] at hx
  rw [ht, shapeTail, if_neg (by rw [hn]; simp), if_pos hx]
theorem tail_yes (ht : shapeSpec s.data.toList = shapeTail (some (r, e0, e1, e2, q.data.toList))) (hel : el.data.toList = q.data.toList.takeWhile bPart) (hq9 : q9.data.toList = q.data.toList.dropWhile bPart) (hn : numB el.data.toList = true)
    (hr : r13.data.toList = q9.data.toList.takeWhile (bIs 62)) (hx : r13.data.toList = [62]) (hq13 : q13.data.toList = q9.data.toList.dropWhile (bIs 62)) (hc : prodN r e0 e1 e2 ≤ 4096) :
    shapeSpec s.data.toList = some (r, e0, e1, e2, el.data.toList, q13.data.toList) := by
  rw [hr, hq9] at hx
  rw [hq9] at hq13
  rw [hel] at hn
  rw [ht, shapeTail, if_neg (by rw [hn]; simp), if_neg (by simpa using hx), if_pos hc, hel, hq13]
theorem tail_large (ht : shapeSpec s.data.toList = shapeTail (some (r, e0, e1, e2, q.data.toList))) (hel : el.data.toList = q.data.toList.takeWhile bPart) (hq9 : q9.data.toList = q.data.toList.dropWhile bPart) (hn : numB el.data.toList = true)
    (hr : r13.data.toList = q9.data.toList.takeWhile (bIs 62)) (hx : r13.data.toList = [62]) (hc : ¬ prodN r e0 e1 e2 ≤ 4096) : shapeSpec s.data.toList = none := by
  rw [hr, hq9] at hx
  rw [hel] at hn
  rw [ht, shapeTail, if_neg (by rw [hn]; simp), if_neg (by simpa using hx), if_neg hc]
end

theorem kindNum_range (l : List UInt8) : 0 ≤ kindNum l ∧ kindNum l ≤ 4 := by
  unfold kindNum; repeat' split
  all_goals omega
theorem kindSpec_range (l : List UInt8) : 0 ≤ (kindSpec l).1 ∧ (kindSpec l).1 ≤ 4 := by
  unfold kindSpec; split <;> exact kindNum_range _

/-- The bits that a string says are more than 0 just if it is a number type. -/
theorem desc_num {l : List UInt8} {k b : Int} {r : Nat} {e0 e1 e2 : Int} {el : List UInt8} (h : descSpec l = ⟨k, b, r, e0, e1, e2, el⟩) : numB l = decide (0 < b) := by
  obtain ⟨hk0, hk4⟩ := kindSpec_range l
  unfold numB
  unfold descSpec at h
  generalize kindSpec l = z at h hk0 hk4 ⊢
  obtain ⟨k1, ok, q⟩ := z
  simp only at h hk0 hk4 ⊢
  by_cases h60 : 60 < l.length
  · rw [if_pos h60] at h; cases h; simp; omega
  rw [if_neg h60] at h
  cases ok
  · rw [if_pos rfl] at h; cases h; simp
  rw [if_neg (by simp)] at h
  by_cases h1 : k1 = 1
  · rw [if_pos h1] at h
    by_cases hq : q = []
    · rw [if_pos hq] at h; cases h; simp [h1, hq]; omega
    · rw [if_neg hq] at h; cases h; simp [h1, hq]
  rw [if_neg h1] at h
  by_cases h2 : k1 = 2 ∨ k1 = 3
  · rw [if_pos h2] at h
    have hb : b = 0 := by
      split at h
      · split at h
        · cases h; rfl
        · cases h; rfl
      · cases h; rfl
    subst hb
    have : ¬ k1 = 0 := by omega
    simp [h1, this]
  rw [if_neg h2] at h
  by_cases h4 : k1 = 4
  · rw [if_pos h4] at h
    have hb : b = 0 := by
      split at h
      · cases h; rfl
      · cases h; rfl
    subst hb
    simp [h4]
  rw [if_neg h4] at h
  obtain rfl : k1 = 0 := by omega
  by_cases hn : (numSpec (q.takeWhile bDigit) 1 64).2 = true ∧ q.dropWhile bDigit = []
  · rw [if_pos hn] at h
    have hv := numSpec_ok (l := q.takeWhile bDigit) (lo := 1) (hi := 64) (v := (numSpec (q.takeWhile bDigit) 1 64).1) (by rw [← hn.1])
    cases h
    rw [hn.1, hn.2]
    simp
    omega
  · rw [if_neg hn] at h
    cases h
    cases hz : (numSpec (q.takeWhile bDigit) 1 64).2
    · simp
    · have : ¬ q.dropWhile bDigit = [] := fun e => hn ⟨hz, e⟩
      simp [this]

set_option maxHeartbeats 4000000 in
set_option maxRecDepth 100000 in
theorem readShape_any (N : Nat) (ih : ∀ x : ByteArray, x.size < N → ∀ w, Env w → Calls Tryz.prog 52 #[.string x] w (ReadPost x w)) (bl : Nat) (s : ByteArray) (hN : s.size < N) (h60 : s.size ≤ 60) (kd : Int) (w : World)
    (hb : w.heap[bl]? = some (.cells #[.string s] 9 (0, 0))) (hE : EnvB bl w) :
    Calls Tryz.prog 80 #[.int .i64 kd, .func (.func 77) #[] #[.pointer (some ⟨bl, 0, none⟩)]] w (ShapePost kd bl s w) := by
  have IH := Lib.hid ih
  clear ih
  have S1 : Shp w bl s kd 0 0 0 0 ⟨#[]⟩ ((w.alloc (.cells #[.int .i64 0, .int .i64 0, .int .i64 0, .int .i64 0, .int .i64 0, .int .i64 0, .string ⟨#[]⟩] 76)).alloc (.cells #[.int .i64 kd, .int .i64 0, .int .i64 0, .int .i64 0, .int .i64 0, .int .i64 0, .string ⟨#[]⟩] 76)) := by
    have hlt := lt_of_block hb
    refine ⟨hlt, ?_, heap_alloc2_old _ _ _, heap_alloc2_new _ _ _, grown_trans (World.grownBy_alloc _ _ _) (World.grownBy_alloc _ _ _), ?_⟩
    · rw [Below.heap_alloc _ _ _ (by simp; omega), Below.heap_alloc _ _ _ hlt]; exact hb
    · exact hE.step (((Below.refl _ _).alloc (by omega) _).alloc (by simp; omega) _)
  clear hb hE
  go_enter Tryz.func80, Tryz.ntmps80
  go_wp2_with fail
  refine (only_some 60 _).mono ?_
  rintro e wo2 ⟨bo2, rfl, ho2, hb2⟩
  have So2 := S1.below hb2
  clear hb2
  go_wp2_with fail
  refine (take_only bl _ 60 (by omega) _ _ So2.box ho2.out).mono ?_
  rintro e w2 ⟨r2, q2, rfl, hr2, hq2, hb3, hg3⟩
  have S2 := So2.grown hg3 hb3
  have Hr2 := Lib.hid hr2
  have Hq2 := Lib.hid hq2
  clear hr2 hq2 hb3 hg3 ho2 So2
  clear S1
  cases hx : (r2.toList == [60])
  · have hfail := Lib.hid (show shapeSpec s.data.toList = none by rw [shapeSpec, if_pos]; rw [← Hr2.out]; exact ne_of_beq_toList hx)
    obtain ⟨c0, c1, c2, c3, c4, c5, c6, hfz⟩ := cells7 S2.dsc
    obtain ⟨d0, d1, d2, d3, d4, d5, d6, hfz2⟩ := cells7 S2.res
    go_wp2_with fail
    refine bodyPost_ret (v := .tuple #[.agg #[.int .i64 kd, .int .i64 0, .int .i64 (0 : Nat), .int .i64 0, .int .i64 0, .int .i64 0, .string ⟨#[]⟩], .bool false]) (results_cell_tmp Tryz.results80 rfl rfl (descVar (set7_block S2.res))) rfl ?_
    exact shp_end S2 false (.inl ⟨rfl, hfail.out⟩)
  · have hs0 := Lib.hid (show ∀ z, shapeLoop 3 (s.data.toList.dropWhile (bIs 60)) 0 0 0 0 = z → shapeSpec s.data.toList = shapeTail z from fun z hz => shape_tail (by rw [← Hr2.out]; exact eq_of_beq_toList hx) hz)
    go_wp2_with fail
    refine (take_digit bl _ _ S2.box).mono ?_
    rintro e w4 ⟨D, q4, rfl, hr4, hq4, hb4, hg4⟩
    have R4 : Rnd w bl kd s D q4 0 0 0 0 q2.data.toList w4 := ⟨S2.grown hg4 hb4, by omega, by omega, by omega, by omega, hr4, hq4, by rw [Hq2.out, size_eq]; exact dropWhile_len _ _, by rw [Hq2.out]⟩
    clear hr4 hq4 hb4 hg4 S2
    go_wp2_with fail
    go_loopw [7] (fun v wr => ∃ (D q : ByteArray) (r : Nat) (e0 e1 e2 : Int) (l : List UInt8), v = .string D ∧ Rnd w bl kd s D q r e0 e1 e2 l wr) (fun _ wr => boxLen bl wr)
    case atStart => exact ⟨_, _, _, _, _, _, _, rfl, R4⟩
    case round =>
      obtain ⟨D, q, r, e0, e1, e2, l, rfl, R⟩ := hrel
      clear R4
      cases hD : D.toList.isEmpty
      · have hne := Lib.hid (nonempty_of hD)
        go_wp2_with fail
        refine (number_some D 0 1000 (by have := R.Dsize; omega) wr R.shp.env.here).mono ?_
        rintro e w5 ⟨n, ok, rfl, hn, hb5⟩
        have S5 := R.shp.below hb5
        clear hb5
        cases ok
        · have hf := Lib.hid ((hs0.out _ (R.hs.symm.trans (loop_bad hne.out R.hD hn.out))).trans rfl)
          obtain ⟨c0, c1, c2, c3, c4, c5, c6, hfz⟩ := cells7 S5.dsc
          obtain ⟨d0, d1, d2, d3, d4, d5, d6, hfz2⟩ := cells7 S5.res
          go_wp2_with fail
          refine bodyPost_ret (v := .tuple #[.agg #[.int .i64 kd, .int .i64 0, .int .i64 (r : Nat), .int .i64 e0, .int .i64 e1, .int .i64 e2, .string ⟨#[]⟩], .bool false]) (results_cell_tmp Tryz.results80 rfl rfl (descVar (set7_block S5.res))) rfl ?_
          exact shp_end S5 false (.inl ⟨rfl, hf.out⟩)
        · go_wp2_with fail
          refine (only_some 120 _).mono ?_
          rintro e wo6 ⟨bo6, rfl, ho2, hb2⟩
          have So6 := S5.below hb2
          clear hb2
          go_wp2_with fail
          refine (take_only bl _ 120 (by omega) _ _ So6.box ho2.out).mono ?_
          rintro e w6 ⟨r6, q6, rfl, hr6, hq6, hb3, hg3⟩
          have S6 := So6.grown hg3 hb3
          have Hr6 := Lib.hid hr6
          have Hq6 := Lib.hid hq6
          clear hr6 hq6 hb3 hg3 ho2 So6
          cases hx6 : (r6.toList == [120])
          · have hf := Lib.hid ((hs0.out _ (R.hs.symm.trans (loop_nox hne.out R.hD hn.out R.hq Hr6.out (ne_of_beq_toList hx6)))).trans rfl)
            obtain ⟨c0, c1, c2, c3, c4, c5, c6, hfz⟩ := cells7 S6.dsc
            obtain ⟨d0, d1, d2, d3, d4, d5, d6, hfz2⟩ := cells7 S6.res
            go_wp2_with fail
            refine bodyPost_ret (v := .tuple #[.agg #[.int .i64 kd, .int .i64 0, .int .i64 (r : Nat), .int .i64 e0, .int .i64 e1, .int .i64 e2, .string ⟨#[]⟩], .bool false]) (results_cell_tmp Tryz.results80 rfl rfl (descVar (set7_block S6.res))) rfl ?_
            exact shp_end S6 false (.inl ⟨rfl, hf.out⟩)
          · have hx6' := Lib.hid (eq_of_beq_toList hx6)
            by_cases hr3 : r = 3
            · subst hr3
              have hf := Lib.hid ((hs0.out _ (R.hs.symm.trans (loop_four hne.out R.hD hn.out R.hq Hr6.out hx6'.out))).trans rfl)
              obtain ⟨c0, c1, c2, c3, c4, c5, c6, hfz⟩ := cells7 S6.dsc
              obtain ⟨d0, d1, d2, d3, d4, d5, d6, hfz2⟩ := cells7 S6.res
              go_wp2_with fail
              refine bodyPost_ret (v := .tuple #[.agg #[.int .i64 kd, .int .i64 0, .int .i64 (3 : Nat), .int .i64 e0, .int .i64 e1, .int .i64 e2, .string ⟨#[]⟩], .bool false]) (results_cell_tmp Tryz.results80 rfl rfl (descVar (set7_block S6.res))) rfl ?_
              exact shp_end S6 false (.inl ⟨rfl, hf.out⟩)
            · have hrl : r < 3 := by have := R.hr; omega
              have hstep := Lib.hid (R.next hne.out hn.out Hr6.out Hq6.out hx6'.out hrl)
              have hbl := Lib.hid (show q6.size < q.size from shorter Hr6.out Hq6.out hx6'.out)
              have hbq := Lib.hid R.shp.box
              rcases (show r = 0 ∨ r = 1 ∨ r = 2 by omega) with rfl | rfl | rfl
              · have S7 : Shp w bl q6 kd 1 n e1 e2 ⟨#[]⟩ ((w6.setCell ⟨w.heap.size + 1, 3, none⟩ (.int .i64 n)).setCell ⟨w.heap.size + 1, 2, none⟩ (.int .i64 1)) := by simpa using S6.set_ext (n := n) hrl
                obtain ⟨c0, c1, c2, c3, c4, c5, c6, hfz⟩ := cells7 S6.dsc
                clear R
                go_wp2_with fail
                refine (take_digit bl _ _ S7.box).mono ?_
                rintro e w8 ⟨D8, q8, rfl, hD8, hq8, hb8, hg8⟩
                have S8 := S7.grown hg8 hb8
                have hq8' := Lib.hid (show q8.size ≤ q6.size by rw [size_eq, size_eq q6, hq8]; exact dropWhile_len _ _)
                have HD8 := Lib.hid hD8
                have HQ8 := Lib.hid hq8
                have HB8 := Lib.hid hb8
                clear hD8 hq8 hb8 hg8 S7 c0 c1 c2 c3 c4 c5 c6 hfz
                go_wp2_with fail
                go_roundw
                case rel => exact ⟨D8, q8, 1, n, e1, e2, q6.data.toList, rfl, hstep.out D8 q8 w8 S8 HD8.out HQ8.out⟩
                case measure => rw [boxLen_of HB8.out, boxLen_of hbq.out]; have := hbl.out; have := hq8'.out; omega
              · have S7 : Shp w bl q6 kd 2 e0 n e2 ⟨#[]⟩ ((w6.setCell ⟨w.heap.size + 1, 4, none⟩ (.int .i64 n)).setCell ⟨w.heap.size + 1, 2, none⟩ (.int .i64 2)) := by simpa using S6.set_ext (n := n) hrl
                obtain ⟨c0, c1, c2, c3, c4, c5, c6, hfz⟩ := cells7 S6.dsc
                clear R
                go_wp2_with fail
                refine (take_digit bl _ _ S7.box).mono ?_
                rintro e w8 ⟨D8, q8, rfl, hD8, hq8, hb8, hg8⟩
                have S8 := S7.grown hg8 hb8
                have hq8' := Lib.hid (show q8.size ≤ q6.size by rw [size_eq, size_eq q6, hq8]; exact dropWhile_len _ _)
                have HD8 := Lib.hid hD8
                have HQ8 := Lib.hid hq8
                have HB8 := Lib.hid hb8
                clear hD8 hq8 hb8 hg8 S7 c0 c1 c2 c3 c4 c5 c6 hfz
                go_wp2_with fail
                go_roundw
                case rel => exact ⟨D8, q8, 2, e0, n, e2, q6.data.toList, rfl, hstep.out D8 q8 w8 S8 HD8.out HQ8.out⟩
                case measure => rw [boxLen_of HB8.out, boxLen_of hbq.out]; have := hbl.out; have := hq8'.out; omega
              · have S7 : Shp w bl q6 kd 3 e0 e1 n ⟨#[]⟩ ((w6.setCell ⟨w.heap.size + 1, 5, none⟩ (.int .i64 n)).setCell ⟨w.heap.size + 1, 2, none⟩ (.int .i64 3)) := by simpa using S6.set_ext (n := n) hrl
                obtain ⟨c0, c1, c2, c3, c4, c5, c6, hfz⟩ := cells7 S6.dsc
                clear R
                go_wp2_with fail
                refine (take_digit bl _ _ S7.box).mono ?_
                rintro e w8 ⟨D8, q8, rfl, hD8, hq8, hb8, hg8⟩
                have S8 := S7.grown hg8 hb8
                have hq8' := Lib.hid (show q8.size ≤ q6.size by rw [size_eq, size_eq q6, hq8]; exact dropWhile_len _ _)
                have HD8 := Lib.hid hD8
                have HQ8 := Lib.hid hq8
                have HB8 := Lib.hid hb8
                clear hD8 hq8 hb8 hg8 S7 c0 c1 c2 c3 c4 c5 c6 hfz
                go_wp2_with fail
                go_roundw
                case rel => exact ⟨D8, q8, 3, e0, e1, n, q6.data.toList, rfl, hstep.out D8 q8 w8 S8 HD8.out HQ8.out⟩
                case measure => rw [boxLen_of HB8.out, boxLen_of hbq.out]; have := hbl.out; have := hq8'.out; omega
      · have hem := Lib.hid (empty_of hD)
        have ht := Lib.hid (hs0.out _ (R.hs.symm.trans (loop_done hem.out R.hD R.hq)))
        have hql := Lib.hid (show q.size ≤ s.size by rw [size_eq, R.hq]; have := dropWhile_len bDigit l; have := R.hl; omega)
        go_wp2_with fail
        refine (take_part bl _ _ R.shp.box).mono ?_
        rintro e w9 ⟨el, q9, rfl, hel, hq9, hb9, hg9⟩
        have S9 := R.shp.grown hg9 hb9
        have hels := Lib.hid (show el.size ≤ q.size by rw [size_eq, size_eq q, hel]; exact takeWhile_len _ _)
        have Hel := Lib.hid hel
        have Hq9 := Lib.hid hq9
        clear hel hq9 hb9 hg9
        obtain ⟨c0, c1, c2, c3, c4, c5, c6, hfz⟩ := cells7 S9.dsc
        have S10 := S9.set_el (el' := el)
        go_wp2_with fail
        refine (IH.out el (by have := hels.out; have := hql.out; omega) _ S10.env.here).mono ?_
        rintro e w11 ⟨k', b', r', x0, x1, x2, el', rfl, hd, hb11⟩
        have S11 := S10.below hb11
        have hnum := Lib.hid (desc_num hd)
        clear hd hb11 S9 S10 c0 c1 c2 c3 c4 c5 c6 hfz
        go_wp2_with fail
        refine (isNumber_any _ _ _ _ _ _ _ _).mono ?_
        rintro e w12 ⟨rfl, hw12⟩
        have S12 : Shp w bl q9 kd r e0 e1 e2 el w12 := by rw [← hw12]; exact S11.alloc _
        clear hw12 S11
        have hpos : decide (0 < b') = true ∨ decide (0 < b') = false := by cases decide (0 < b') <;> simp
        rcases hpos with hpos | hpos
        · have hnb := Lib.hid (hnum.out.trans hpos)
          go_wp2_with fail
          refine (only_some 62 _).mono ?_
          rintro e wo13 ⟨bo13, rfl, ho2, hb2⟩
          have So13 := S12.below hb2
          clear hb2
          go_wp2_with fail
          refine (take_only bl _ 62 (by omega) _ _ So13.box ho2.out).mono ?_
          rintro e w13 ⟨r13, q13, rfl, hr13, hq13, hb3, hg3⟩
          have S13 := So13.grown hg3 hb3
          have Hr13 := Lib.hid hr13
          have Hq13 := Lib.hid hq13
          clear hr13 hq13 hb3 hg3 ho2 So13
          cases hx13 : (r13.toList == [62])
          · have hf := Lib.hid (tail_nogt ht.out Hel.out Hq9.out hnb.out Hr13.out (ne_of_beq_toList hx13))
            obtain ⟨c0, c1, c2, c3, c4, c5, c6, hfz⟩ := cells7 S13.dsc
            obtain ⟨d0, d1, d2, d3, d4, d5, d6, hfz2⟩ := cells7 S13.res
            go_wp2_with fail
            refine bodyPost_ret (v := .tuple #[.agg #[.int .i64 kd, .int .i64 0, .int .i64 (r : Nat), .int .i64 e0, .int .i64 e1, .int .i64 e2, .string el], .bool false]) (results_cell_tmp Tryz.results80 rfl rfl (descVar (set7_block S13.res))) rfl ?_
            exact shp_end S13 false (.inl ⟨rfl, hf.out⟩)
          · have hx13' := Lib.hid (eq_of_beq_toList hx13)
            obtain ⟨c0, c1, c2, c3, c4, c5, c6, hfz⟩ := cells7 S13.dsc
            go_wp2_with fail
            refine (cells_any _ _ _ _ _ r el R.hr R.h0 R.h1 R.h2 _).mono ?_
            rintro e w14 ⟨rfl, hw14⟩
            have S14 : Shp w bl q13 kd r e0 e1 e2 el w14 := by rw [← hw14]; exact S13.alloc _
            clear hw14 S13 c0 c1 c2 c3 c4 c5 c6 hfz
            by_cases hc : prodN r e0 e1 e2 ≤ 4096
            · have hf := Lib.hid (tail_yes ht.out Hel.out Hq9.out hnb.out Hr13.out hx13'.out Hq13.out hc)
              obtain ⟨c0, c1, c2, c3, c4, c5, c6, hfz⟩ := cells7 S14.dsc
              obtain ⟨d0, d1, d2, d3, d4, d5, d6, hfz2⟩ := cells7 S14.res
              go_wp2_with fail
              refine bodyPost_ret (v := .tuple #[.agg #[.int .i64 kd, .int .i64 0, .int .i64 (r : Nat), .int .i64 e0, .int .i64 e1, .int .i64 e2, .string el], .bool true]) (results_cell_tmp Tryz.results80 rfl rfl (descVar (set7_block S14.res))) rfl ?_
              exact shp_end S14 true (.inr ⟨rfl, hf.out⟩)
            · have hf := Lib.hid (tail_large ht.out Hel.out Hq9.out hnb.out Hr13.out hx13'.out hc)
              have hcd : decide (prodN r e0 e1 e2 ≤ 4096) = false := decide_eq_false hc
              clear hc
              obtain ⟨c0, c1, c2, c3, c4, c5, c6, hfz⟩ := cells7 S14.dsc
              obtain ⟨d0, d1, d2, d3, d4, d5, d6, hfz2⟩ := cells7 S14.res
              go_wp2_with fail
              refine bodyPost_ret (v := .tuple #[.agg #[.int .i64 kd, .int .i64 0, .int .i64 (r : Nat), .int .i64 e0, .int .i64 e1, .int .i64 e2, .string el], .bool false]) (results_cell_tmp Tryz.results80 rfl rfl (descVar (set7_block S14.res))) rfl ?_
              exact shp_end S14 false (.inl ⟨rfl, hf.out⟩)
        · have hf := Lib.hid (tail_nonum ht.out Hel.out (hnum.out.trans hpos))
          obtain ⟨c0, c1, c2, c3, c4, c5, c6, hfz⟩ := cells7 S12.dsc
          obtain ⟨d0, d1, d2, d3, d4, d5, d6, hfz2⟩ := cells7 S12.res
          go_wp2_with fail
          refine bodyPost_ret (v := .tuple #[.agg #[.int .i64 kd, .int .i64 0, .int .i64 (r : Nat), .int .i64 e0, .int .i64 e1, .int .i64 e2, .string el], .bool false]) (results_cell_tmp Tryz.results80 rfl rfl (descVar (set7_block S12.res))) rfl ?_
          exact shp_end S12 false (.inl ⟨rfl, hf.out⟩)
end Go.Proofs.YtjkhjflemcljdaaGreatDoor
