import Derived.Test.YtgimdkgjfenafaaGreatDoorCards
import Derived.Test.YtgimdkgjfenafaaGreatDoorTie
import Derived.Test.YtgimdkgjfenafaaGreatDoorCG03
import Derived.ProofKit
import Derived.OpenShut
import Derived.Deep.DeepHandedRow
import Derived.Deep.DeepWitnessRowRef
import Derived.Lib.LaidTab
import Derived.Stop.LaidErr
import Derived.Carry
import Derived.Deep.DeepLaidRun
namespace Go.Proofs.YtgimdkgjfenafaaGreatDoor
open Go.ChangeShapes Go.WideShapes Go.ChangeAt Go.RowKit
section
variable {H : Type} {enc : TypeId × Value → H}
abbrev theLaid : List (String × DataW Unit) := [("math/bits.deBruijn32tab", Rows.laid_math_bits_deBruijn32tab), ("math/bits.deBruijn64tab", Rows.laid_math_bits_deBruijn64tab), ("internal/strconv.uint64pow10", Rows.laid_internal_strconv_uint64pow10), ("unicode/utf8.acceptRanges", Rows.laid_unicode_utf8_acceptRanges), ("strconv.ErrRange", Rows.laid_strconv_ErrRange), ("strconv.ErrSyntax", Rows.laid_strconv_ErrSyntax), ("unicode/utf8.first", Rows.laid_unicode_utf8_first)]
theorem knobless : ownKnob Tryz.prog.godebug = none := by kernel_rfl
theorem gt_pow : (Tryz.prog.globals[1]?).map (·.type) = some 296 := by kernel_rfl
theorem gt_syn : (Tryz.prog.globals[2]?).map (·.type) = some 237 := by kernel_rfl
theorem gt_ran : (Tryz.prog.globals[3]?).map (·.type) = some 237 := by kernel_rfl
theorem cells_pow : Tryz.prog.cellsOf 296 = 20 := by kernel_rfl
theorem cells_u64 : Tryz.prog.cellsOf 198 = 1 := by kernel_rfl
theorem cells_es : Tryz.prog.cellsOf 327 = 1 := by kernel_rfl
theorem cells_string : Tryz.prog.cellsOf 9 = 1 := by kernel_rfl
theorem es_star : "*" ++ "errors.errorString" = "*errors.errorString" := by decide
theorem es_row (u : TypeId) (h : Tryz.prog.typeName? 3 u = some "*errors.errorString") : u = 325 :=
 typeName_ptr_named (nm := "errors.errorString") (by rw [es_star]; kernel_rfl) (by kernel_rfl) (by decide) u (by rw [es_star]; exact h)
theorem int_of_shape {P : Program} {w : World} {g : Nat} {t : TypeId} {zero : Array Value} (h : w.ShapedOpen P) (hg : g < P.globals.size)
  (h0 : ((begin P (fun _ _ => 0) default).world.heap[g]?).bind Obj.row? = some (zero, t)) (hz : zero.size = 1)
  (hb : P.buildable t = true) (hc : P.cellTypes P.depth t = some [t]) (hu : P.underlying t = some (.int .i64)) : ∃ (m : Int) (fr : Nat × Nat), w.heap[g]? = some (.cells #[.int .i64 m] t fr) := by
 obtain ⟨cs, hh, hs, hr⟩ := h.1 g zero t hg h0
 obtain ⟨ts, hts, _, hall⟩ := hr hb
 rw [hc] at hts
 cases hts
 have h1 : cs.size = 1 := by omega
 obtain ⟨v, rfl⟩ : ∃ v, cs = #[v] := ⟨cs[0], by
  apply Array.ext
  ·simpa using h1
  ·intro i h2 h3
   obtain rfl : i = 0 := by omega
   rfl⟩
 obtain ⟨u, hu', hok⟩ := hall 0 v (by simp)
 have : u = t := by simpa using hu'.symm
 subst this
 unfold Cell.ok at hok
 rw [hu] at hok
 cases v <;> simp [IntKind.has] at hok
 obtain ⟨rfl, _⟩ := hok
 exact ⟨_, _, hh⟩
theorem env_of {W : World} (h : laidMetH Tryz.prog theLaid W) (hs : W.ShapedOpen Tryz.prog) : Env W := by
 have h0 : laidMet Tryz.prog theLaid W := h
 have h2 := h0.tail.tail
 have h4 := h2.tail.tail
 obtain ⟨a0, s0, hv0, _⟩ := laid_sentinel h4 g_ran gt_ran Tryz.underlying237 es_row Tryz.underlying325 Tryz.underlying327 rfl rfl Tryz.underlying9 cells_es cells_string
 obtain ⟨a1, s1, hv1, _⟩ := laid_sentinel h4.tail g_syn gt_syn Tryz.underlying237 es_row Tryz.underlying325 Tryz.underlying327 rfl rfl Tryz.underlying9 cells_es cells_string
 refine ⟨⟨_, _, hv1⟩, ⟨_, _, hv0⟩, Lib.tabIs_of_head g_pow gt_pow Tryz.underlying296 Tryz.underlying198 cells_u64 cells_pow h2, ?_⟩
 obtain ⟨m, fr, hb⟩ := int_of_shape (g := 0) (t := 3) (zero := #[.int .i64 0]) hs (of_decide_eq_true (by kernel_rfl)) (by kernel_rfl) rfl (by kernel_rfl) (by kernel_rfl) Tryz.underlying3
 refine ⟨m, ?_⟩
 unfold World.var?
 rw [g_mx, Option.bind_some, hb]
theorem laid_out : laidOutB Tryz.prog = true := by kernel_rfl
theorem carried {W W' : World} (hb : Below W.heap.size W W') : ∀ {ts : List TypeId} {vs : List Value} {ds : List (DataW H)} {ps : List MemPlace},
  (∀ t ∈ ts, Tryz.prog.readableRec t = true ∧ t < Tryz.prog.types.size) → DataW.TrodAll enc Tryz.prog W 0 (fun _ => true) true ts vs ds ps → (∀ x ∈ ps, x.block < W.heap.size) →
  DataW.TrodAll enc Tryz.prog W' 0 (fun b => decide (b < W.heap.size)) true ts vs ds ps
 | [], [], [], _, _, h, _ => h
 | _ :: _, _ :: _, _ :: _, _, ht, ⟨p, q, h1, h2, e⟩, hlt =>
  ⟨p, q, Below.trod laid_out (ht _ (List.mem_cons.2 (Or.inl rfl))).1 (ht _ (List.mem_cons.2 (Or.inl rfl))).2 h1 hb (fun x hx => hlt x (by rw [e]; exact List.mem_append_left _ hx)),
   carried hb (fun t h => ht t (List.mem_cons.2 (Or.inr h))) h2 (fun x hx => hlt x (by rw [e]; exact List.mem_append_right _ hx)), e⟩
theorem law_post {f : Func} {s : ChangeSpec} {W W' : World} {args : Array Value} {ds gs : List (DataW H)} {before : List MemPlace} (hv : s.vars = []) (hr : f.resultTypes = #[4])
  (hp : ∀ t ∈ f.params.toList, Tryz.prog.readableRec t = true ∧ t < Tryz.prog.types.size) (hW : DataW.Whole enc Tryz.prog f.params.toList s.vars false W args.toList ds gs before)
  (hs : s.fn H ds = { results := [.lit (.bool true)], args := ds }) (hb : Below W.heap.size W W') : s.post enc Tryz.prog f false true false false W args (.bool true) W' := by
 have hlt : ∀ x ∈ before, x.block < W.heap.size := fun x hx => by simpa using hW.lt x hx
 obtain ⟨p, q, hA, hV, rfl, _, _⟩ := id hW
 rw [hv] at hV
 obtain ⟨rfl, rfl⟩ := trodVars_none hV
 refine ⟨ds, [], p ++ [], [], p ++ [], [], hW, ?_, ?_, ?_, hb.frame _ , fun h => by cases h⟩
 ·rw [List.append_nil, hs, hr]
  exact trodAll_mk1 (shut_bool Tryz.underlying4 _)
 ·rw [List.append_nil, List.append_nil, hs]
  exact carried hb hp hA (fun x hx => hlt x (List.mem_append_left _ hx))
 ·rw [List.append_nil, hs, hv]
  exact rfl
def flat (d : DataW Unit) : Array Value :=
 match d with
 | .agg l => (l.flatMap fun x => match x with
  | .lit v => [v.value]
  | .agg l2 => l2.flatMap fun y => match y with
   | .lit v => [v.value]
   | _ => []
  | _ => []).toArray
 | _ => #[]
def laying (l : List (Nat × Array Value)) (h : Array Obj) : Array Obj := l.foldl (fun h x => h.modify x.1 fun o => match o with
 | .cells _ t frozen => .cells x.2 t frozen
 | o => o) h
noncomputable def low : Nat := (World.holding Tryz.prog default ⟨#[], #[], []⟩).heap.size
noncomputable def laidWorld (os : Os) : World :=
 let w0 := World.holding Tryz.prog os ⟨#[.cells #[.string ⟨#[118, 97, 108, 117, 101, 32, 111, 117, 116, 32, 111, 102, 32, 114, 97, 110, 103, 101]⟩] 327, .cells #[.string ⟨#[105, 110, 118, 97, 108, 105, 100, 32, 115, 121, 110, 116, 97, 120]⟩] 327], #[], []⟩
 { w0 with heap := laying [(4, flat Rows.laid_math_bits_deBruijn32tab), (5, flat Rows.laid_math_bits_deBruijn64tab), (1, flat Rows.laid_internal_strconv_uint64pow10), (7, flat Rows.laid_unicode_utf8_acceptRanges), (6, flat Rows.laid_unicode_utf8_first),
   (3, #[.iface 325 (.pointer (some ⟨low, 0, none⟩))]), (2, #[.iface 325 (.pointer (some ⟨low + 1, 0, none⟩))])] w0.heap }
set_option maxRecDepth 100000 in
theorem laid_met (os : Os) (args : Array Value) : laidMet Tryz.prog theLaid ((laidWorld os).forCall (fun _ _ => 0) ⟨#[], args, []⟩).memory :=
 laidMet_of_run3 8 (by kernel_rfl) (by kernel_rfl) (by kernel_rfl)
theorem laid_shape (os : Os) (args : Array Value) : ((laidWorld os).forCall (fun _ _ => 0) ⟨#[], args, []⟩).variablesRefB Tryz.prog = true := by kernel_rfl
theorem laid_rest (os : Os) (args : Array Value) : (((laidWorld os).forCall (fun _ _ => 0) ⟨#[], args, []⟩).heap.toList.drop Tryz.prog.globals.size).take ((begin Tryz.prog (fun _ _ => 0) default).world.heap.size - Tryz.prog.globals.size) =
  (begin Tryz.prog (fun _ _ => 0) default).world.heap.toList.drop Tryz.prog.globals.size := by kernel_rfl
end
end Go.Proofs.YtgimdkgjfenafaaGreatDoor
