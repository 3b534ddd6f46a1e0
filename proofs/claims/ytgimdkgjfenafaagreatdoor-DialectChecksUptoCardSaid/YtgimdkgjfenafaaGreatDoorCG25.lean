import Derived.Test.YtgimdkgjfenafaaGreatDoorCG08
namespace Go.Proofs.YtgimdkgjfenafaaGreatDoor
open Go.RowKit
theorem dx_snoc {N : Nat} {W W' : World} {es : List DEl} {x : DEl} (h : ∀ e ∈ es, DefOK (above N W) e) (hx : DefOK (above N W') x) (hb : Below W.heap.size W W') : ∀ e ∈ es ++ [x], DefOK (above N W') e := by
 intro e he
 rcases List.mem_append.1 he with he | he
 ·exact (h e he).keeps (above_below hb)
 ·obtain rfl := List.mem_singleton.1 he
  exact hx
theorem dx_with {V : World} {x : DEl} {ns : List NeedD} {no : Option Addr} {nc : Nat} (h : DefOK V x) (hn : NeedsAt V no ns) (hc : ns.length ≤ nc) (r s : Int) : DefOK V ⟨⟨x.d.name, x.d.ins, x.d.outs, ns, r, s, x.d.traits⟩, x.io, x.ic, x.oo, x.oc, no, nc, x.ko, x.kc⟩ :=
 ⟨h.ins, h.outs, hn, h.traits, h.icap, h.ocap, hc, h.kcap⟩
theorem after_alloc {W W' : World} {o : Obj} (hb : Below (W.alloc o).heap.size (W.alloc o) W') : Below W.heap.size W W' ∧ W'.heap[W.heap.size]? = some o :=
 ⟨(new_below W o).trans (hb.mono (by simp)), (hb.block _ (by simp)).trans (heap_alloc_new W o)⟩
theorem above_heap {N b : Nat} {W : World} {o : Obj} (h : W.heap[b]? = some o) (hN : N ≤ b) : (above N W).heap[b]? = some o := by
 unfold above mask
 simp only [Array.getElem?_mapIdx, h, Option.map_some]
 rw [if_pos (decide_eq_true hN)]
theorem first_block (w : World) (o o' : Obj) : ((w.alloc o).alloc o').heap[w.heap.size]? = some o := ((new_below (w.alloc o) o').block _ (by simp)).trans (heap_alloc_new w o)
theorem two_below (w : World) (o o' : Obj) : Below w.heap.size w ((w.alloc o).alloc o') := ((Below.refl _ w).alloc (Nat.le_refl _) _).alloc (by simp) _
def coreD : List DiaD := [⟨⟨#[97, 114, 105, 116, 104]⟩, [], arithD⟩, ⟨⟨#[97, 114, 114]⟩, [], arrD⟩, ⟨⟨#[99, 102]⟩, [], cfD⟩, ⟨⟨#[102, 117, 110, 99]⟩, [], funcD⟩, ⟨⟨#[105, 111]⟩, [], ioD⟩, ⟨⟨#[109, 101, 109]⟩, [], memD⟩, ⟨⟨#[115, 99, 102]⟩, [], scfD⟩]
def DiasPost (ds : List DiaD) (w : World) (e : Ending) (w' : World) : Prop := ∃ (xs : List XEl) (ao : Option Addr) (c : Nat), e = .returned (.slice ao xs.length c) ∧ xs.map XEl.d = ds ∧ DiasAt (above w.heap.size w') ao xs ∧ xs.length ≤ c ∧ Below w.heap.size w w'
theorem diasPost {ds : List DiaD} {w w' : World} {xs : List XEl} {ao : Option Addr} {n c : Nat} (h1 : n = xs.length) (h2 : xs.map XEl.d = ds) (h3 : RowIs (above w.heap.size w') ao xs.length (xs.flatMap XEl.cells)) (h4 : ∀ x ∈ xs, DiaOK (above w.heap.size w') x) (h5 : n ≤ c) (h6 : Below w.heap.size w w') :
  DiasPost ds w (.returned (.slice ao n c)) w' := by
 subst h1
 exact ⟨xs, ao, c, rfl, h2, ⟨h3, h4⟩, h5, h6⟩
theorem dia_snoc {N : Nat} {W W' : World} {xs : List XEl} {x : XEl} (h : ∀ e ∈ xs, DiaOK (above N W) e) (hx : DiaOK (above N W') x) (hb : Below W.heap.size W W') : ∀ e ∈ xs ++ [x], DiaOK (above N W') e := by
 intro e he
 rcases List.mem_append.1 he with he | he
 ·exact (h e he).keeps (above_below hb)
 ·obtain rfl := List.mem_singleton.1 he
  exact hx
theorem dx_none {V : World} : ∀ e ∈ ([] : List DEl), DefOK V e := fun _ he => by cases he
theorem dia_none {V : World} : ∀ e ∈ ([] : List XEl), DiaOK V e := fun _ he => by cases he
theorem above_mono {N : Nat} {w w' : World} (h : Keeps w w') : Keeps (above N w) (above N w') := fun a v hx => by
 unfold above at hx ⊢
 rw [mask_cell] at hx ⊢
 split at hx
 ·rename_i hp
  rw [if_pos hp]
  exact h a v hx
 ·cases hx
theorem above_both {N M : Nat} {g : Option Nat} {w : World} (hN : N ≤ M) (h : ∀ k, some k = g → k < M) : Keeps (above M w) (above N (off g w)) := fun a v hx => by
 unfold above off at *
 rw [mask_cell] at hx
 rw [mask_cell, mask_cell]
 split at hx
 ·rename_i hp
  simp only [decide_eq_true_eq] at hp
  rw [if_pos (by simp only [decide_eq_true_eq]; omega), if_pos (by simp only [decide_eq_true_eq]; intro e; have := h _ e; omega)]
  exact hx
 ·cases hx
end Go.Proofs.YtgimdkgjfenafaaGreatDoor
