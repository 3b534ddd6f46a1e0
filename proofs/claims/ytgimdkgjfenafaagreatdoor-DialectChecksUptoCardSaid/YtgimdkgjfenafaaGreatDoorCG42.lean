import Derived.Test.YtgimdkgjfenafaaGreatDoorCG10
import Derived.Test.YtgimdkgjfenafaaGreatDoorCG25
import Derived.Test.YtgimdkgjfenafaaGreatDoorCG14
namespace Go.Proofs.YtgimdkgjfenafaaGreatDoor
open Go.RowKit
theorem core_at (j : Nat) (hj : j < 7) : ∃ ds, coreFind (coreNamesL[j]?.getD ByteArray.empty) = some ds ∧ coreD[j]? = some ⟨coreNamesL[j]?.getD ByteArray.empty, [], ds⟩ := by
 match j, hj with
 | 0, _ => exact ⟨arithD, by simp only [coreFind, ByteArray.toList_eq]; rfl, rfl⟩
 | 1, _ => exact ⟨arrD, by simp only [coreFind, ByteArray.toList_eq]; rfl, rfl⟩
 | 2, _ => exact ⟨cfD, by simp only [coreFind, ByteArray.toList_eq]; rfl, rfl⟩
 | 3, _ => exact ⟨funcD, by simp only [coreFind, ByteArray.toList_eq]; rfl, rfl⟩
 | 4, _ => exact ⟨ioD, by simp only [coreFind, ByteArray.toList_eq]; rfl, rfl⟩
 | 5, _ => exact ⟨memD, by simp only [coreFind, ByteArray.toList_eq]; rfl, rfl⟩
 | 6, _ => exact ⟨scfD, by simp only [coreFind, ByteArray.toList_eq]; rfl, rfl⟩
theorem info_dia : InfoIs 90 3 := infoIs (by kernel_rfl)
structure CorS (w : World) (j : Nat) (no : Option Addr) (ao : Option Addr) (c : Nat) (xs : List XEl) (W : World) : Prop where
 row : W.ownsRow w.heap.size 90 3 (.slice ao xs.length c) xs.length (xs.flatMap XEl.cells)
 ok : ∀ x ∈ xs, DiaOK (above w.heap.size (off (own ao) W)) x
 below : Below w.heap.size w W
 names : StrsAt (off (own ao) W) no coreNamesL
 few : xs.length = j
 so : xs.map XEl.d = coreD.take j
theorem CorS.more {w W w2 W3 W4 : World} {j : Nat} {no ao ao' : Option Addr} {c c' : Nat} {xs : List XEl} {x : XEl} (h : CorS w j no ao c xs W) (hx : DiaOK (above W.heap.size w2) x) (hb2 : Below W.heap.size W w2) (hb : Below w2.heap.size w2 W3) (hd : coreD[j]? = some x.d)
  (hown : W4.ownsRow w.heap.size 90 3 (.slice ao' (xs.length + 1) c') (xs.length + 1) (xs.flatMap XEl.cells ++ XEl.cells x)) (hb4 : Below w.heap.size W3 W4) (hk : Keeps (off (own ao) W3) (off (own ao') W4)) : CorS w (j + 1) no ao' c' (xs ++ [x]) W4 := by
 have hb23 : Below W.heap.size W W3 := hb2.trans (hb.mono hb2.size)
 refine ⟨by rw [List.length_append, List.flatMap_append]; simpa using hown, fun y hy => ?_, (h.below.trans (hb23.mono h.below.size)).trans hb4, strs_keeps h.names ((off_below hb23).trans hk), by rw [List.length_append, h.few]; rfl, ?_⟩
 ·rcases List.mem_append.1 hy with hy | hy
  ·exact (h.ok y hy).keeps ((above_mono (off_below hb23)).trans (above_mono hk))
  ·obtain rfl := List.mem_singleton.1 hy
   exact hx.keeps (((above_below hb).trans (above_both h.below.size (fun k e => (own_lt' h.row k e).2))).trans (above_mono hk))
 ·rw [List.map_append, h.so, List.take_add_one, hd]
  rfl
set_option maxHeartbeats 4000000 in
set_option maxRecDepth 100000 in
theorem Core_any (w : World) : Calls Tryz.prog 38 #[] w (DiasPost coreD w) := by
 go_enter Tryz.func38, Tryz.ntmps38
 go_wp2_with fail
 have hcn : Calls Tryz.prog 66 #[] w fun e w' => ∃ (ao : Option Addr) (c : Nat), e = .returned (.slice ao 7 c) ∧ StrsAt (above w.heap.size w') ao coreNamesL ∧ 7 ≤ c ∧ Below w.heap.size w w' := coreNames_any w
 refine hcn.mono ?_
 rintro e w1 ⟨no, nc, rfl, hs, hc, hb⟩
 have HN := Lib.hid (strs_keeps hs (above_off (g := none) (fun k e => by cases e)))
 have HB := Lib.hid hb
 clear hs hc hb hcn
 go_wp2_with fail
 go_loopw [1, 8] (fun ov iv wr => ∃ (j : Nat) (ao : Option Addr) (cp : Nat) (xs : List XEl), j ≤ 7 ∧ ov = .slice ao xs.length cp ∧ iv = .int .i64 j ∧ Hid (CorS w j no ao cp xs wr)) (fun _ iv _ => 7 - (intOf iv).toNat)
 case atStart => exact ⟨0, none, 0, [], Nat.zero_le _, rfl, rfl, World.ownsRow_nil _ _ _ _, fun e he => (by cases he), HB.out, HN.out, rfl, rfl⟩
 case round =>
  obtain ⟨j, ao, cp, xs, hj, rfl, rfl, HC⟩ := hrel
  by_cases hlt : j < 7
  rotate_left
  ·obtain rfl : j = 7 := by omega
   clear hlt hj
   go_wp2_with fail
   go_ret
   have h1 := (row_own (own_above HC.out.row))
   exact ⟨xs, ao, cp, rfl, HC.out.so, ⟨h1.1, fun x hx => (HC.out.ok x hx).keeps (above_mono off_to)⟩, h1.2, HC.out.below⟩
  rcases strs_keeps HC.out.names off_to with h0 | ⟨a, rfl, hc⟩
  ·cases h0
  have hcm := hc j hlt
  obtain ⟨ds, hf, hd⟩ := core_at j hlt
  generalize coreNamesL[j]?.getD ByteArray.empty = nm at hcm hf hd
  have HF := Lib.hid hf
  have HD := Lib.hid hd
  have HJ := Lib.hid hlt
  have hji : (j : Int) < 7 := by omega
  clear hc hf hd hlt hj
  go_wp2_with fail
  refine (coreDialect_any nm wr).mono ?_
  rintro e w2 ⟨hb, (⟨ds', es, po, pc, hf, hes, hl, hpc, rfl⟩ | ⟨hf, rfl⟩)⟩
  rotate_left
  ·rw [HF.out] at hf; cases hf
  obtain rfl : ds = ds' := Option.some.inj (HF.out.symm.trans hf)
  have HES := Lib.hid hes
  have HL := Lib.hid (show DiaOK (above wr.heap.size w2) ⟨nm, [], es, none, 0, po, pc⟩ from ⟨.inl rfl, hl, Nat.le_refl _, hpc⟩)
  have HB2 := Lib.hid hb
  have HD2 := Lib.hid (show coreD[j]? = some (XEl.d ⟨nm, [], es, none, 0, po, pc⟩) by rw [HD.out]; show _ = some (⟨nm, [], es.map (·.d)⟩ : DiaD); rw [hes])
  clear hes hl hb hf hcm
  go_upto_region 6 with fail
  have HNB := Lib.hid (new_below w2 (.cells #[.string nm, .slice none 0 0, .slice po es.length pc] 90))
  have HT := Lib.hid (heap_alloc_new w2 (.cells #[.string nm, .slice none 0 0, .slice po es.length pc] 90))
  generalize w2.alloc (.cells #[.string nm, .slice none 0 0, .slice po es.length pc] 90) = W3 at HNB HT ⊢
  have HB3 := Lib.hid (HB2.out.trans (HNB.out.mono HB2.out.size))
  have HOWN := Lib.hid (ownsRow_below HC.out.row HB3.out)
  have HBS := Lib.hid (Nat.le_trans HC.out.below.size HB3.out.size)
  have HNN := Lib.hid (show xs.length ≤ 2000000 by have := HC.out.few; have := HJ.out; omega)
  obtain ⟨c0, c1, c2, -⟩ := cells3 HT.out
  generalize w2.heap.size = D at c0 c1 c2 ⊢
  go_wp2_with (at_builtin; refine wp_append_own rfl 25 90 3 Tryz.underlying25 info_dia (by decide) _ _ rfl HOWN.out HBS.out HNN.out rfl rfl rfl rfl ?_; intro ao5 c5 w5 hown hbel hk; have HO5 := Lib.hid hown; have HB5 := Lib.hid hbel; have HK5 := Lib.hid hk; clear hown hbel hk)
  go_roundw
  case rel => exact ⟨j + 1, ao5, c5, xs ++ [(⟨nm, [], es, none, 0, po, pc⟩ : XEl)], HJ.out, by rw [List.length_append, List.length_singleton], by go_num, HC.out.more (x := ⟨nm, [], es, none, 0, po, pc⟩) HL.out HB2.out HNB.out HD2.out HO5.out HB5.out HK5.out⟩
  case measure => have := HJ.out; simp only [intOf]; omega
end Go.Proofs.YtgimdkgjfenafaaGreatDoor
