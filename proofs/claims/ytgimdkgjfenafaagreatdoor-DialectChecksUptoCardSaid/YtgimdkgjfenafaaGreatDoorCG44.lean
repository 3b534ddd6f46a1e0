import Derived.Test.YtgimdkgjfenafaaGreatDoorCG14
import Derived.Test.YtgimdkgjfenafaaGreatDoorCG25
namespace Go.Proofs.YtgimdkgjfenafaaGreatDoor
open Go.RowKit
set_option maxHeartbeats 16000000 in
set_option maxRecDepth 100000 in
theorem RCore_any (w : World) : Calls Tryz.prog 43 #[] w (DiasPost coreD w) := by
 have HB := Lib.hid (Below.refl w.heap.size w)
 have HOK := Lib.hid (dx_none (V := above w.heap.size w))
 have HX := Lib.hid (dia_none (V := above w.heap.size w))
 go_enter Tryz.func43, Tryz.ntmps43
 go_wp2_with fail
 refine (def_any ⟨#[97, 100, 100]⟩ ⟨#[97, 58, 110, 117, 109, 44, 97]⟩ ⟨#[97]⟩ ⟨#[99, 111, 109, 109, 117, 116, 101, 115, 44, 112, 117, 114, 101]⟩ (by decide) (by decide) (by decide) _).mono ?_
 rintro e w1 ⟨x1, rfl, hd, ho, hb⟩
 have HDx1 := Lib.hid hd
 have HS := Lib.hid hb
 clear hb
 have HO := Lib.hid (ho.keeps (above_above HB.out.size))
 clear hd ho
 have HX' := Lib.hid (fun e he => (HX.out e he).keeps (above_below (N := w.heap.size) HS.out))
 clear HX
 have HX := HX'
 clear HX'
 have HOK' := Lib.hid (fun e he => (HOK.out e he).keeps (above_below (N := w.heap.size) HS.out))
 clear HOK
 have HOK := HOK'
 clear HOK'
 have HB' := Lib.hid (HB.out.trans (HS.out.mono HB.out.size))
 clear HB HS
 have HB := HB'
 clear HB'
 have HOK' := Lib.hid (dx_snoc HOK.out HO.out (Below.refl _ _))
 clear HOK HO
 have HOK := HOK'
 clear HOK'
 go_wp2_with fail
 refine (def_any ⟨#[97, 110, 100]⟩ ⟨#[97, 58, 110, 117, 109, 44, 97]⟩ ⟨#[97]⟩ ⟨#[99, 111, 109, 109, 117, 116, 101, 115, 44, 112, 117, 114, 101]⟩ (by decide) (by decide) (by decide) _).mono ?_
 rintro e w2 ⟨x2, rfl, hd, ho, hb⟩
 have HDx2 := Lib.hid hd
 have HS := Lib.hid hb
 clear hb
 have HO := Lib.hid (ho.keeps (above_above HB.out.size))
 clear hd ho
 have HX' := Lib.hid (fun e he => (HX.out e he).keeps (above_below (N := w.heap.size) HS.out))
 clear HX
 have HX := HX'
 clear HX'
 have HOK' := Lib.hid (fun e he => (HOK.out e he).keeps (above_below (N := w.heap.size) HS.out))
 clear HOK
 have HOK := HOK'
 clear HOK'
 have HB' := Lib.hid (HB.out.trans (HS.out.mono HB.out.size))
 clear HB HS
 have HB := HB'
 clear HB'
 have HOK' := Lib.hid (dx_snoc HOK.out HO.out (Below.refl _ _))
 clear HOK HO
 have HOK := HOK'
 clear HOK'
 go_wp2_with fail
 refine (def_any ⟨#[99, 97, 115, 116]⟩ ⟨#[97, 58, 110, 117, 109]⟩ ⟨#[110, 117, 109, 42]⟩ ⟨#[112, 117, 114, 101]⟩ (by decide) (by decide) (by decide) _).mono ?_
 rintro e w3 ⟨x3, rfl, hd, ho, hb⟩
 have HDx3 := Lib.hid hd
 have HS := Lib.hid hb
 clear hb
 have HO := Lib.hid (ho.keeps (above_above HB.out.size))
 clear hd ho
 have HX' := Lib.hid (fun e he => (HX.out e he).keeps (above_below (N := w.heap.size) HS.out))
 clear HX
 have HX := HX'
 clear HX'
 have HOK' := Lib.hid (fun e he => (HOK.out e he).keeps (above_below (N := w.heap.size) HS.out))
 clear HOK
 have HOK := HOK'
 clear HOK'
 have HB' := Lib.hid (HB.out.trans (HS.out.mono HB.out.size))
 clear HB HS
 have HB := HB'
 clear HB'
 have HOK' := Lib.hid (dx_snoc HOK.out HO.out (Below.refl _ _))
 clear HOK HO
 have HOK := HOK'
 clear HOK'
 go_wp2_with fail
 refine (def_any ⟨#[99, 109, 112]⟩ ⟨#[97, 58, 110, 117, 109, 44, 97]⟩ ⟨#[105, 49]⟩ ⟨#[112, 117, 114, 101]⟩ (by decide) (by decide) (by decide) _).mono ?_
 rintro e w4 ⟨x4, rfl, hd, ho, hb⟩
 have HDx4 := Lib.hid hd
 have HS := Lib.hid hb
 clear hb
 have HO := Lib.hid (ho.keeps (above_above HB.out.size))
 clear hd ho
 have HX' := Lib.hid (fun e he => (HX.out e he).keeps (above_below (N := w.heap.size) HS.out))
 clear HX
 have HX := HX'
 clear HX'
 have HOK' := Lib.hid (fun e he => (HOK.out e he).keeps (above_below (N := w.heap.size) HS.out))
 clear HOK
 have HOK := HOK'
 clear HOK'
 have HB' := Lib.hid (HB.out.trans (HS.out.mono HB.out.size))
 clear HB HS
 have HB := HB'
 clear HB'
 go_wp2_with fail
 refine (need_any ⟨#[112, 114, 101, 100]⟩ 1 _).mono ?_
 rintro e w5 ⟨no5, nc5, rfl, hn, hc, hb⟩
 have HN := Lib.hid (RowIs.keeps hn (above_above (N := w.heap.size) HB.out.size))
 have HC := Lib.hid (show ([⟨⟨#[112, 114, 101, 100]⟩, 1⟩] : List NeedD).length ≤ nc5 from hc)
 have HS := Lib.hid hb
 clear hn hc hb
 have HX' := Lib.hid (fun e he => (HX.out e he).keeps (above_below (N := w.heap.size) HS.out))
 clear HX
 have HX := HX'
 clear HX'
 have HOK' := Lib.hid (fun e he => (HOK.out e he).keeps (above_below (N := w.heap.size) HS.out))
 clear HOK
 have HOK := HOK'
 clear HOK'
 have HO' := Lib.hid (HO.out.keeps (above_below (N := w.heap.size) HS.out))
 clear HO
 have HO := HO'
 clear HO'
 have HB' := Lib.hid (HB.out.trans (HS.out.mono HB.out.size))
 clear HB HS
 have HB := HB'
 clear HB'
 go_wp2_with fail
 refine (with_any x4 [⟨⟨#[112, 114, 101, 100]⟩, 1⟩] no5 nc5 0 0 _).mono ?_
 rintro e w6 ⟨rfl, hb⟩
 have HS := Lib.hid hb
 clear hb
 have HX' := Lib.hid (fun e he => (HX.out e he).keeps (above_below (N := w.heap.size) HS.out))
 clear HX
 have HX := HX'
 clear HX'
 have HOK' := Lib.hid (fun e he => (HOK.out e he).keeps (above_below (N := w.heap.size) HS.out))
 clear HOK
 have HOK := HOK'
 clear HOK'
 have HO' := Lib.hid (HO.out.keeps (above_below (N := w.heap.size) HS.out))
 clear HO
 have HO := HO'
 clear HO'
 have HN' := Lib.hid (HN.out.keeps (above_below (N := w.heap.size) HS.out))
 clear HN
 have HN := HN'
 clear HN'
 have HB' := Lib.hid (HB.out.trans (HS.out.mono HB.out.size))
 clear HB HS
 have HB := HB'
 clear HB'
 have HOK' := Lib.hid (dx_snoc HOK.out (dx_with HO.out HN.out HC.out 0 0) (Below.refl _ _))
 clear HOK HO HN HC
 have HOK := HOK'
 clear HOK'
 go_wp2_with fail
 refine (def_any ⟨#[99, 111, 110, 115, 116]⟩ ⟨#[]⟩ ⟨#[110, 117, 109, 42]⟩ ⟨#[112, 117, 114, 101]⟩ (by decide) (by decide) (by decide) _).mono ?_
 rintro e w7 ⟨x7, rfl, hd, ho, hb⟩
 have HDx7 := Lib.hid hd
 have HS := Lib.hid hb
 clear hb
 have HO := Lib.hid (ho.keeps (above_above HB.out.size))
 clear hd ho
 have HX' := Lib.hid (fun e he => (HX.out e he).keeps (above_below (N := w.heap.size) HS.out))
 clear HX
 have HX := HX'
 clear HX'
 have HOK' := Lib.hid (fun e he => (HOK.out e he).keeps (above_below (N := w.heap.size) HS.out))
 clear HOK
 have HOK := HOK'
 clear HOK'
 have HB' := Lib.hid (HB.out.trans (HS.out.mono HB.out.size))
 clear HB HS
 have HB := HB'
 clear HB'
 go_wp2_with fail
 refine (need_any ⟨#[118, 97, 108, 117, 101]⟩ 0 _).mono ?_
 rintro e w8 ⟨no8, nc8, rfl, hn, hc, hb⟩
 have HN := Lib.hid (RowIs.keeps hn (above_above (N := w.heap.size) HB.out.size))
 have HC := Lib.hid (show ([⟨⟨#[118, 97, 108, 117, 101]⟩, 0⟩] : List NeedD).length ≤ nc8 from hc)
 have HS := Lib.hid hb
 clear hn hc hb
 have HX' := Lib.hid (fun e he => (HX.out e he).keeps (above_below (N := w.heap.size) HS.out))
 clear HX
 have HX := HX'
 clear HX'
 have HOK' := Lib.hid (fun e he => (HOK.out e he).keeps (above_below (N := w.heap.size) HS.out))
 clear HOK
 have HOK := HOK'
 clear HOK'
 have HO' := Lib.hid (HO.out.keeps (above_below (N := w.heap.size) HS.out))
 clear HO
 have HO := HO'
 clear HO'
 have HB' := Lib.hid (HB.out.trans (HS.out.mono HB.out.size))
 clear HB HS
 have HB := HB'
 clear HB'
 go_wp2_with fail
 refine (with_any x7 [⟨⟨#[118, 97, 108, 117, 101]⟩, 0⟩] no8 nc8 0 0 _).mono ?_
 rintro e w9 ⟨rfl, hb⟩
 have HS := Lib.hid hb
 clear hb
 have HX' := Lib.hid (fun e he => (HX.out e he).keeps (above_below (N := w.heap.size) HS.out))
 clear HX
 have HX := HX'
 clear HX'
 have HOK' := Lib.hid (fun e he => (HOK.out e he).keeps (above_below (N := w.heap.size) HS.out))
 clear HOK
 have HOK := HOK'
 clear HOK'
 have HO' := Lib.hid (HO.out.keeps (above_below (N := w.heap.size) HS.out))
 clear HO
 have HO := HO'
 clear HO'
 have HN' := Lib.hid (HN.out.keeps (above_below (N := w.heap.size) HS.out))
 clear HN
 have HN := HN'
 clear HN'
 have HB' := Lib.hid (HB.out.trans (HS.out.mono HB.out.size))
 clear HB HS
 have HB := HB'
 clear HB'
 have HOK' := Lib.hid (dx_snoc HOK.out (dx_with HO.out HN.out HC.out 0 0) (Below.refl _ _))
 clear HOK HO HN HC
 have HOK := HOK'
 clear HOK'
 go_wp2_with fail
 refine (def_any ⟨#[100, 105, 118, 115]⟩ ⟨#[97, 58, 110, 117, 109, 44, 97]⟩ ⟨#[97]⟩ ⟨#[116, 114, 97, 112, 115]⟩ (by decide) (by decide) (by decide) _).mono ?_
 rintro e w10 ⟨x10, rfl, hd, ho, hb⟩
 have HDx10 := Lib.hid hd
 have HS := Lib.hid hb
 clear hb
 have HO := Lib.hid (ho.keeps (above_above HB.out.size))
 clear hd ho
 have HX' := Lib.hid (fun e he => (HX.out e he).keeps (above_below (N := w.heap.size) HS.out))
 clear HX
 have HX := HX'
 clear HX'
 have HOK' := Lib.hid (fun e he => (HOK.out e he).keeps (above_below (N := w.heap.size) HS.out))
 clear HOK
 have HOK := HOK'
 clear HOK'
 have HB' := Lib.hid (HB.out.trans (HS.out.mono HB.out.size))
 clear HB HS
 have HB := HB'
 clear HB'
 have HOK' := Lib.hid (dx_snoc HOK.out HO.out (Below.refl _ _))
 clear HOK HO
 have HOK := HOK'
 clear HOK'
 go_wp2_with fail
 refine (def_any ⟨#[100, 105, 118, 117]⟩ ⟨#[97, 58, 110, 117, 109, 44, 97]⟩ ⟨#[97]⟩ ⟨#[116, 114, 97, 112, 115]⟩ (by decide) (by decide) (by decide) _).mono ?_
 rintro e w11 ⟨x11, rfl, hd, ho, hb⟩
 have HDx11 := Lib.hid hd
 have HS := Lib.hid hb
 clear hb
 have HO := Lib.hid (ho.keeps (above_above HB.out.size))
 clear hd ho
 have HX' := Lib.hid (fun e he => (HX.out e he).keeps (above_below (N := w.heap.size) HS.out))
 clear HX
 have HX := HX'
 clear HX'
 have HOK' := Lib.hid (fun e he => (HOK.out e he).keeps (above_below (N := w.heap.size) HS.out))
 clear HOK
 have HOK := HOK'
 clear HOK'
 have HB' := Lib.hid (HB.out.trans (HS.out.mono HB.out.size))
 clear HB HS
 have HB := HB'
 clear HB'
 have HOK' := Lib.hid (dx_snoc HOK.out HO.out (Below.refl _ _))
 clear HOK HO
 have HOK := HOK'
 clear HOK'
 go_wp2_with fail
 refine (def_any ⟨#[101, 120, 116, 115]⟩ ⟨#[97, 58, 105, 110, 116]⟩ ⟨#[110, 117, 109, 42]⟩ ⟨#[112, 117, 114, 101]⟩ (by decide) (by decide) (by decide) _).mono ?_
 rintro e w12 ⟨x12, rfl, hd, ho, hb⟩
 have HDx12 := Lib.hid hd
 have HS := Lib.hid hb
 clear hb
 have HO := Lib.hid (ho.keeps (above_above HB.out.size))
 clear hd ho
 have HX' := Lib.hid (fun e he => (HX.out e he).keeps (above_below (N := w.heap.size) HS.out))
 clear HX
 have HX := HX'
 clear HX'
 have HOK' := Lib.hid (fun e he => (HOK.out e he).keeps (above_below (N := w.heap.size) HS.out))
 clear HOK
 have HOK := HOK'
 clear HOK'
 have HB' := Lib.hid (HB.out.trans (HS.out.mono HB.out.size))
 clear HB HS
 have HB := HB'
 clear HB'
 have HOK' := Lib.hid (dx_snoc HOK.out HO.out (Below.refl _ _))
 clear HOK HO
 have HOK := HOK'
 clear HOK'
 go_wp2_with fail
 refine (def_any ⟨#[101, 120, 116, 117]⟩ ⟨#[97, 58, 105, 110, 116]⟩ ⟨#[110, 117, 109, 42]⟩ ⟨#[112, 117, 114, 101]⟩ (by decide) (by decide) (by decide) _).mono ?_
 rintro e w13 ⟨x13, rfl, hd, ho, hb⟩
 have HDx13 := Lib.hid hd
 have HS := Lib.hid hb
 clear hb
 have HO := Lib.hid (ho.keeps (above_above HB.out.size))
 clear hd ho
 have HX' := Lib.hid (fun e he => (HX.out e he).keeps (above_below (N := w.heap.size) HS.out))
 clear HX
 have HX := HX'
 clear HX'
 have HOK' := Lib.hid (fun e he => (HOK.out e he).keeps (above_below (N := w.heap.size) HS.out))
 clear HOK
 have HOK := HOK'
 clear HOK'
 have HB' := Lib.hid (HB.out.trans (HS.out.mono HB.out.size))
 clear HB HS
 have HB := HB'
 clear HB'
 have HOK' := Lib.hid (dx_snoc HOK.out HO.out (Below.refl _ _))
 clear HOK HO
 have HOK := HOK'
 clear HOK'
 go_wp2_with fail
 refine (def_any ⟨#[109, 117, 108]⟩ ⟨#[97, 58, 110, 117, 109, 44, 97]⟩ ⟨#[97]⟩ ⟨#[99, 111, 109, 109, 117, 116, 101, 115, 44, 112, 117, 114, 101]⟩ (by decide) (by decide) (by decide) _).mono ?_
 rintro e w14 ⟨x14, rfl, hd, ho, hb⟩
 have HDx14 := Lib.hid hd
 have HS := Lib.hid hb
 clear hb
 have HO := Lib.hid (ho.keeps (above_above HB.out.size))
 clear hd ho
 have HX' := Lib.hid (fun e he => (HX.out e he).keeps (above_below (N := w.heap.size) HS.out))
 clear HX
 have HX := HX'
 clear HX'
 have HOK' := Lib.hid (fun e he => (HOK.out e he).keeps (above_below (N := w.heap.size) HS.out))
 clear HOK
 have HOK := HOK'
 clear HOK'
 have HB' := Lib.hid (HB.out.trans (HS.out.mono HB.out.size))
 clear HB HS
 have HB := HB'
 clear HB'
 have HOK' := Lib.hid (dx_snoc HOK.out HO.out (Below.refl _ _))
 clear HOK HO
 have HOK := HOK'
 clear HOK'
 go_wp2_with fail
 refine (def_any ⟨#[111, 114]⟩ ⟨#[97, 58, 110, 117, 109, 44, 97]⟩ ⟨#[97]⟩ ⟨#[99, 111, 109, 109, 117, 116, 101, 115, 44, 112, 117, 114, 101]⟩ (by decide) (by decide) (by decide) _).mono ?_
 rintro e w15 ⟨x15, rfl, hd, ho, hb⟩
 have HDx15 := Lib.hid hd
 have HS := Lib.hid hb
 clear hb
 have HO := Lib.hid (ho.keeps (above_above HB.out.size))
 clear hd ho
 have HX' := Lib.hid (fun e he => (HX.out e he).keeps (above_below (N := w.heap.size) HS.out))
 clear HX
 have HX := HX'
 clear HX'
 have HOK' := Lib.hid (fun e he => (HOK.out e he).keeps (above_below (N := w.heap.size) HS.out))
 clear HOK
 have HOK := HOK'
 clear HOK'
 have HB' := Lib.hid (HB.out.trans (HS.out.mono HB.out.size))
 clear HB HS
 have HB := HB'
 clear HB'
 have HOK' := Lib.hid (dx_snoc HOK.out HO.out (Below.refl _ _))
 clear HOK HO
 have HOK := HOK'
 clear HOK'
 go_wp2_with fail
 refine (def_any ⟨#[114, 101, 109, 115]⟩ ⟨#[97, 58, 110, 117, 109, 44, 97]⟩ ⟨#[97]⟩ ⟨#[116, 114, 97, 112, 115]⟩ (by decide) (by decide) (by decide) _).mono ?_
 rintro e w16 ⟨x16, rfl, hd, ho, hb⟩
 have HDx16 := Lib.hid hd
 have HS := Lib.hid hb
 clear hb
 have HO := Lib.hid (ho.keeps (above_above HB.out.size))
 clear hd ho
 have HX' := Lib.hid (fun e he => (HX.out e he).keeps (above_below (N := w.heap.size) HS.out))
 clear HX
 have HX := HX'
 clear HX'
 have HOK' := Lib.hid (fun e he => (HOK.out e he).keeps (above_below (N := w.heap.size) HS.out))
 clear HOK
 have HOK := HOK'
 clear HOK'
 have HB' := Lib.hid (HB.out.trans (HS.out.mono HB.out.size))
 clear HB HS
 have HB := HB'
 clear HB'
 have HOK' := Lib.hid (dx_snoc HOK.out HO.out (Below.refl _ _))
 clear HOK HO
 have HOK := HOK'
 clear HOK'
 go_wp2_with fail
 refine (def_any ⟨#[114, 101, 109, 117]⟩ ⟨#[97, 58, 110, 117, 109, 44, 97]⟩ ⟨#[97]⟩ ⟨#[116, 114, 97, 112, 115]⟩ (by decide) (by decide) (by decide) _).mono ?_
 rintro e w17 ⟨x17, rfl, hd, ho, hb⟩
 have HDx17 := Lib.hid hd
 have HS := Lib.hid hb
 clear hb
 have HO := Lib.hid (ho.keeps (above_above HB.out.size))
 clear hd ho
 have HX' := Lib.hid (fun e he => (HX.out e he).keeps (above_below (N := w.heap.size) HS.out))
 clear HX
 have HX := HX'
 clear HX'
 have HOK' := Lib.hid (fun e he => (HOK.out e he).keeps (above_below (N := w.heap.size) HS.out))
 clear HOK
 have HOK := HOK'
 clear HOK'
 have HB' := Lib.hid (HB.out.trans (HS.out.mono HB.out.size))
 clear HB HS
 have HB := HB'
 clear HB'
 have HOK' := Lib.hid (dx_snoc HOK.out HO.out (Below.refl _ _))
 clear HOK HO
 have HOK := HOK'
 clear HOK'
 go_wp2_with fail
 refine (def_any ⟨#[115, 101, 108, 101, 99, 116]⟩ ⟨#[105, 49, 44, 97, 58, 97, 110, 121, 44, 97]⟩ ⟨#[97]⟩ ⟨#[112, 117, 114, 101]⟩ (by decide) (by decide) (by decide) _).mono ?_
 rintro e w18 ⟨x18, rfl, hd, ho, hb⟩
 have HDx18 := Lib.hid hd
 have HS := Lib.hid hb
 clear hb
 have HO := Lib.hid (ho.keeps (above_above HB.out.size))
 clear hd ho
 have HX' := Lib.hid (fun e he => (HX.out e he).keeps (above_below (N := w.heap.size) HS.out))
 clear HX
 have HX := HX'
 clear HX'
 have HOK' := Lib.hid (fun e he => (HOK.out e he).keeps (above_below (N := w.heap.size) HS.out))
 clear HOK
 have HOK := HOK'
 clear HOK'
 have HB' := Lib.hid (HB.out.trans (HS.out.mono HB.out.size))
 clear HB HS
 have HB := HB'
 clear HB'
 have HOK' := Lib.hid (dx_snoc HOK.out HO.out (Below.refl _ _))
 clear HOK HO
 have HOK := HOK'
 clear HOK'
 go_wp2_with fail
 refine (def_any ⟨#[115, 104, 108]⟩ ⟨#[97, 58, 110, 117, 109, 44, 97]⟩ ⟨#[97]⟩ ⟨#[112, 117, 114, 101]⟩ (by decide) (by decide) (by decide) _).mono ?_
 rintro e w19 ⟨x19, rfl, hd, ho, hb⟩
 have HDx19 := Lib.hid hd
 have HS := Lib.hid hb
 clear hb
 have HO := Lib.hid (ho.keeps (above_above HB.out.size))
 clear hd ho
 have HX' := Lib.hid (fun e he => (HX.out e he).keeps (above_below (N := w.heap.size) HS.out))
 clear HX
 have HX := HX'
 clear HX'
 have HOK' := Lib.hid (fun e he => (HOK.out e he).keeps (above_below (N := w.heap.size) HS.out))
 clear HOK
 have HOK := HOK'
 clear HOK'
 have HB' := Lib.hid (HB.out.trans (HS.out.mono HB.out.size))
 clear HB HS
 have HB := HB'
 clear HB'
 have HOK' := Lib.hid (dx_snoc HOK.out HO.out (Below.refl _ _))
 clear HOK HO
 have HOK := HOK'
 clear HOK'
 go_wp2_with fail
 refine (def_any ⟨#[115, 104, 114, 115]⟩ ⟨#[97, 58, 110, 117, 109, 44, 97]⟩ ⟨#[97]⟩ ⟨#[112, 117, 114, 101]⟩ (by decide) (by decide) (by decide) _).mono ?_
 rintro e w20 ⟨x20, rfl, hd, ho, hb⟩
 have HDx20 := Lib.hid hd
 have HS := Lib.hid hb
 clear hb
 have HO := Lib.hid (ho.keeps (above_above HB.out.size))
 clear hd ho
 have HX' := Lib.hid (fun e he => (HX.out e he).keeps (above_below (N := w.heap.size) HS.out))
 clear HX
 have HX := HX'
 clear HX'
 have HOK' := Lib.hid (fun e he => (HOK.out e he).keeps (above_below (N := w.heap.size) HS.out))
 clear HOK
 have HOK := HOK'
 clear HOK'
 have HB' := Lib.hid (HB.out.trans (HS.out.mono HB.out.size))
 clear HB HS
 have HB := HB'
 clear HB'
 have HOK' := Lib.hid (dx_snoc HOK.out HO.out (Below.refl _ _))
 clear HOK HO
 have HOK := HOK'
 clear HOK'
 go_wp2_with fail
 refine (def_any ⟨#[115, 104, 114, 117]⟩ ⟨#[97, 58, 110, 117, 109, 44, 97]⟩ ⟨#[97]⟩ ⟨#[112, 117, 114, 101]⟩ (by decide) (by decide) (by decide) _).mono ?_
 rintro e w21 ⟨x21, rfl, hd, ho, hb⟩
 have HDx21 := Lib.hid hd
 have HS := Lib.hid hb
 clear hb
 have HO := Lib.hid (ho.keeps (above_above HB.out.size))
 clear hd ho
 have HX' := Lib.hid (fun e he => (HX.out e he).keeps (above_below (N := w.heap.size) HS.out))
 clear HX
 have HX := HX'
 clear HX'
 have HOK' := Lib.hid (fun e he => (HOK.out e he).keeps (above_below (N := w.heap.size) HS.out))
 clear HOK
 have HOK := HOK'
 clear HOK'
 have HB' := Lib.hid (HB.out.trans (HS.out.mono HB.out.size))
 clear HB HS
 have HB := HB'
 clear HB'
 have HOK' := Lib.hid (dx_snoc HOK.out HO.out (Below.refl _ _))
 clear HOK HO
 have HOK := HOK'
 clear HOK'
 go_wp2_with fail
 refine (def_any ⟨#[115, 117, 98]⟩ ⟨#[97, 58, 110, 117, 109, 44, 97]⟩ ⟨#[97]⟩ ⟨#[112, 117, 114, 101]⟩ (by decide) (by decide) (by decide) _).mono ?_
 rintro e w22 ⟨x22, rfl, hd, ho, hb⟩
 have HDx22 := Lib.hid hd
 have HS := Lib.hid hb
 clear hb
 have HO := Lib.hid (ho.keeps (above_above HB.out.size))
 clear hd ho
 have HX' := Lib.hid (fun e he => (HX.out e he).keeps (above_below (N := w.heap.size) HS.out))
 clear HX
 have HX := HX'
 clear HX'
 have HOK' := Lib.hid (fun e he => (HOK.out e he).keeps (above_below (N := w.heap.size) HS.out))
 clear HOK
 have HOK := HOK'
 clear HOK'
 have HB' := Lib.hid (HB.out.trans (HS.out.mono HB.out.size))
 clear HB HS
 have HB := HB'
 clear HB'
 have HOK' := Lib.hid (dx_snoc HOK.out HO.out (Below.refl _ _))
 clear HOK HO
 have HOK := HOK'
 clear HOK'
 go_wp2_with fail
 refine (def_any ⟨#[116, 114, 117, 110, 99]⟩ ⟨#[97, 58, 105, 110, 116]⟩ ⟨#[110, 117, 109, 42]⟩ ⟨#[112, 117, 114, 101]⟩ (by decide) (by decide) (by decide) _).mono ?_
 rintro e w23 ⟨x23, rfl, hd, ho, hb⟩
 have HDx23 := Lib.hid hd
 have HS := Lib.hid hb
 clear hb
 have HO := Lib.hid (ho.keeps (above_above HB.out.size))
 clear hd ho
 have HX' := Lib.hid (fun e he => (HX.out e he).keeps (above_below (N := w.heap.size) HS.out))
 clear HX
 have HX := HX'
 clear HX'
 have HOK' := Lib.hid (fun e he => (HOK.out e he).keeps (above_below (N := w.heap.size) HS.out))
 clear HOK
 have HOK := HOK'
 clear HOK'
 have HB' := Lib.hid (HB.out.trans (HS.out.mono HB.out.size))
 clear HB HS
 have HB := HB'
 clear HB'
 have HOK' := Lib.hid (dx_snoc HOK.out HO.out (Below.refl _ _))
 clear HOK HO
 have HOK := HOK'
 clear HOK'
 go_wp2_with fail
 refine (def_any ⟨#[120, 111, 114]⟩ ⟨#[97, 58, 110, 117, 109, 44, 97]⟩ ⟨#[97]⟩ ⟨#[99, 111, 109, 109, 117, 116, 101, 115, 44, 112, 117, 114, 101]⟩ (by decide) (by decide) (by decide) _).mono ?_
 rintro e w24 ⟨x24, rfl, hd, ho, hb⟩
 have HDx24 := Lib.hid hd
 have HS := Lib.hid hb
 clear hb
 have HO := Lib.hid (ho.keeps (above_above HB.out.size))
 clear hd ho
 have HX' := Lib.hid (fun e he => (HX.out e he).keeps (above_below (N := w.heap.size) HS.out))
 clear HX
 have HX := HX'
 clear HX'
 have HOK' := Lib.hid (fun e he => (HOK.out e he).keeps (above_below (N := w.heap.size) HS.out))
 clear HOK
 have HOK := HOK'
 clear HOK'
 have HB' := Lib.hid (HB.out.trans (HS.out.mono HB.out.size))
 clear HB HS
 have HB := HB'
 clear HB'
 have HOK' := Lib.hid (dx_snoc HOK.out HO.out (Below.refl _ _))
 clear HOK HO
 have HOK := HOK'
 clear HOK'
 go_wp2_with fail
 refine (def_any ⟨#[103, 101, 116]⟩ ⟨#[116, 58, 97, 114, 114, 44, 105, 110, 100, 101, 120, 94, 116]⟩ ⟨#[101, 108, 101, 109, 32, 116]⟩ ⟨#[116, 114, 97, 112, 115]⟩ (by decide) (by decide) (by decide) _).mono ?_
 rintro e w25 ⟨x25, rfl, hd, ho, hb⟩
 have HDx25 := Lib.hid hd
 have HS := Lib.hid (after_alloc hb).1
 have HR := Lib.hid (after_alloc hb).2
 clear hb
 have HO := Lib.hid (ho.keeps (above_above (Nat.le_trans HB.out.size (by simp))))
 clear hd ho
 have HD_arith := Lib.hid (show DiaOK (above w.heap.size w25) ⟨⟨#[97, 114, 105, 116, 104]⟩, [], [x1, x2, x3, ⟨⟨x4.d.name, x4.d.ins, x4.d.outs, [⟨⟨#[112, 114, 101, 100]⟩, 1⟩], 0, 0, x4.d.traits⟩, x4.io, x4.ic, x4.oo, x4.oc, no5, nc5, x4.ko, x4.kc⟩, ⟨⟨x7.d.name, x7.d.ins, x7.d.outs, [⟨⟨#[118, 97, 108, 117, 101]⟩, 0⟩], 0, 0, x7.d.traits⟩, x7.io, x7.ic, x7.oo, x7.oc, no8, nc8, x7.ko, x7.kc⟩, x10, x11, x12, x13, x14, x15, x16, x17, x18, x19, x20, x21, x22, x23, x24], none, 0, some ⟨w24.heap.size, 0, none⟩, 20⟩ from ⟨.inl rfl, ⟨row_is (T := 41) (above_heap HR.out HB.out.size), fun e he => (HOK.out e he).keeps (above_below HS.out)⟩, Nat.le_refl _, Nat.le_refl _⟩)
 have HX' := Lib.hid (dia_snoc HX.out HD_arith.out HS.out)
 have HOK' := Lib.hid (dx_none (V := above w.heap.size w25))
 clear HX HOK HR HD_arith
 have HX := HX'
 have HOK := HOK'
 clear HX' HOK'
 have HB' := Lib.hid (HB.out.trans (HS.out.mono HB.out.size))
 clear HB HS
 have HB := HB'
 clear HB'
 have HOK' := Lib.hid (dx_snoc HOK.out HO.out (Below.refl _ _))
 clear HOK HO
 have HOK := HOK'
 clear HOK'
 go_wp2_with fail
 refine (def_any ⟨#[115, 101, 116]⟩ ⟨#[116, 58, 97, 114, 114, 44, 101, 108, 101, 109, 32, 116, 44, 105, 110, 100, 101, 120, 94, 116]⟩ ⟨#[116]⟩ ⟨#[116, 114, 97, 112, 115]⟩ (by decide) (by decide) (by decide) _).mono ?_
 rintro e w26 ⟨x26, rfl, hd, ho, hb⟩
 have HDx26 := Lib.hid hd
 have HS := Lib.hid hb
 clear hb
 have HO := Lib.hid (ho.keeps (above_above HB.out.size))
 clear hd ho
 have HX' := Lib.hid (fun e he => (HX.out e he).keeps (above_below (N := w.heap.size) HS.out))
 clear HX
 have HX := HX'
 clear HX'
 have HOK' := Lib.hid (fun e he => (HOK.out e he).keeps (above_below (N := w.heap.size) HS.out))
 clear HOK
 have HOK := HOK'
 clear HOK'
 have HB' := Lib.hid (HB.out.trans (HS.out.mono HB.out.size))
 clear HB HS
 have HB := HB'
 clear HB'
 have HOK' := Lib.hid (dx_snoc HOK.out HO.out (Below.refl _ _))
 clear HOK HO
 have HOK := HOK'
 clear HOK'
 go_wp2_with fail
 refine (def_any ⟨#[115, 112, 108, 97, 116]⟩ ⟨#[97, 58, 110, 117, 109]⟩ ⟨#[97, 110, 121, 42]⟩ ⟨#[112, 117, 114, 101]⟩ (by decide) (by decide) (by decide) _).mono ?_
 rintro e w27 ⟨x27, rfl, hd, ho, hb⟩
 have HDx27 := Lib.hid hd
 have HS := Lib.hid hb
 clear hb
 have HO := Lib.hid (ho.keeps (above_above HB.out.size))
 clear hd ho
 have HX' := Lib.hid (fun e he => (HX.out e he).keeps (above_below (N := w.heap.size) HS.out))
 clear HX
 have HX := HX'
 clear HX'
 have HOK' := Lib.hid (fun e he => (HOK.out e he).keeps (above_below (N := w.heap.size) HS.out))
 clear HOK
 have HOK := HOK'
 clear HOK'
 have HB' := Lib.hid (HB.out.trans (HS.out.mono HB.out.size))
 clear HB HS
 have HB := HB'
 clear HB'
 have HOK' := Lib.hid (dx_snoc HOK.out HO.out (Below.refl _ _))
 clear HOK HO
 have HOK := HOK'
 clear HOK'
 go_wp2_with fail
 refine (def_any ⟨#[98, 114]⟩ ⟨#[]⟩ ⟨#[]⟩ ⟨#[101, 110, 100]⟩ (by decide) (by decide) (by decide) _).mono ?_
 rintro e w28 ⟨x28, rfl, hd, ho, hb⟩
 have HDx28 := Lib.hid hd
 have HS := Lib.hid (after_alloc hb).1
 have HR := Lib.hid (after_alloc hb).2
 clear hb
 have HO := Lib.hid (ho.keeps (above_above (Nat.le_trans HB.out.size (by simp))))
 clear hd ho
 have HD_arr := Lib.hid (show DiaOK (above w.heap.size w28) ⟨⟨#[97, 114, 114]⟩, [], [x25, x26, x27], none, 0, some ⟨w27.heap.size, 0, none⟩, 3⟩ from ⟨.inl rfl, ⟨row_is (T := 41) (above_heap HR.out HB.out.size), fun e he => (HOK.out e he).keeps (above_below HS.out)⟩, Nat.le_refl _, Nat.le_refl _⟩)
 have HX' := Lib.hid (dia_snoc HX.out HD_arr.out HS.out)
 have HOK' := Lib.hid (dx_none (V := above w.heap.size w28))
 clear HX HOK HR HD_arr
 have HX := HX'
 have HOK := HOK'
 clear HX' HOK'
 have HB' := Lib.hid (HB.out.trans (HS.out.mono HB.out.size))
 clear HB HS
 have HB := HB'
 clear HB'
 go_wp2_with fail
 refine (with_any x28 [] none 0 0 1 _).mono ?_
 rintro e w29 ⟨rfl, hb⟩
 have HS := Lib.hid hb
 clear hb
 have HX' := Lib.hid (fun e he => (HX.out e he).keeps (above_below (N := w.heap.size) HS.out))
 clear HX
 have HX := HX'
 clear HX'
 have HOK' := Lib.hid (fun e he => (HOK.out e he).keeps (above_below (N := w.heap.size) HS.out))
 clear HOK
 have HOK := HOK'
 clear HOK'
 have HO' := Lib.hid (HO.out.keeps (above_below (N := w.heap.size) HS.out))
 clear HO
 have HO := HO'
 clear HO'
 have HB' := Lib.hid (HB.out.trans (HS.out.mono HB.out.size))
 clear HB HS
 have HB := HB'
 clear HB'
 have HN := Lib.hid (show NeedsAt (above w.heap.size w29) none [] from .inl rfl)
 have HC := Lib.hid (show ([] : List NeedD).length ≤ 0 from Nat.le_refl _)
 have HOK' := Lib.hid (dx_snoc HOK.out (dx_with HO.out HN.out HC.out 0 1) (Below.refl _ _))
 clear HOK HO HN HC
 have HOK := HOK'
 clear HOK'
 go_wp2_with fail
 refine (def_any ⟨#[99, 111, 110, 100]⟩ ⟨#[105, 49]⟩ ⟨#[]⟩ ⟨#[101, 110, 100]⟩ (by decide) (by decide) (by decide) _).mono ?_
 rintro e w30 ⟨x30, rfl, hd, ho, hb⟩
 have HDx30 := Lib.hid hd
 have HS := Lib.hid hb
 clear hb
 have HO := Lib.hid (ho.keeps (above_above HB.out.size))
 clear hd ho
 have HX' := Lib.hid (fun e he => (HX.out e he).keeps (above_below (N := w.heap.size) HS.out))
 clear HX
 have HX := HX'
 clear HX'
 have HOK' := Lib.hid (fun e he => (HOK.out e he).keeps (above_below (N := w.heap.size) HS.out))
 clear HOK
 have HOK := HOK'
 clear HOK'
 have HB' := Lib.hid (HB.out.trans (HS.out.mono HB.out.size))
 clear HB HS
 have HB := HB'
 clear HB'
 go_wp2_with fail
 refine (with_any x30 [] none 0 0 2 _).mono ?_
 rintro e w31 ⟨rfl, hb⟩
 have HS := Lib.hid hb
 clear hb
 have HX' := Lib.hid (fun e he => (HX.out e he).keeps (above_below (N := w.heap.size) HS.out))
 clear HX
 have HX := HX'
 clear HX'
 have HOK' := Lib.hid (fun e he => (HOK.out e he).keeps (above_below (N := w.heap.size) HS.out))
 clear HOK
 have HOK := HOK'
 clear HOK'
 have HO' := Lib.hid (HO.out.keeps (above_below (N := w.heap.size) HS.out))
 clear HO
 have HO := HO'
 clear HO'
 have HB' := Lib.hid (HB.out.trans (HS.out.mono HB.out.size))
 clear HB HS
 have HB := HB'
 clear HB'
 have HN := Lib.hid (show NeedsAt (above w.heap.size w31) none [] from .inl rfl)
 have HC := Lib.hid (show ([] : List NeedD).length ≤ 0 from Nat.le_refl _)
 have HOK' := Lib.hid (dx_snoc HOK.out (dx_with HO.out HN.out HC.out 0 2) (Below.refl _ _))
 clear HOK HO HN HC
 have HOK := HOK'
 clear HOK'
 go_wp2_with fail
 refine (def_any ⟨#[116, 114, 97, 112]⟩ ⟨#[]⟩ ⟨#[]⟩ ⟨#[101, 110, 100, 44, 116, 114, 97, 112, 115]⟩ (by decide) (by decide) (by decide) _).mono ?_
 rintro e w32 ⟨x32, rfl, hd, ho, hb⟩
 have HDx32 := Lib.hid hd
 have HS := Lib.hid hb
 clear hb
 have HO := Lib.hid (ho.keeps (above_above HB.out.size))
 clear hd ho
 have HX' := Lib.hid (fun e he => (HX.out e he).keeps (above_below (N := w.heap.size) HS.out))
 clear HX
 have HX := HX'
 clear HX'
 have HOK' := Lib.hid (fun e he => (HOK.out e he).keeps (above_below (N := w.heap.size) HS.out))
 clear HOK
 have HOK := HOK'
 clear HOK'
 have HB' := Lib.hid (HB.out.trans (HS.out.mono HB.out.size))
 clear HB HS
 have HB := HB'
 clear HB'
 go_wp2_with fail
 refine (need_any ⟨#[99, 111, 100, 101]⟩ 0 _).mono ?_
 rintro e w33 ⟨no33, nc33, rfl, hn, hc, hb⟩
 have HN := Lib.hid (RowIs.keeps hn (above_above (N := w.heap.size) HB.out.size))
 have HC := Lib.hid (show ([⟨⟨#[99, 111, 100, 101]⟩, 0⟩] : List NeedD).length ≤ nc33 from hc)
 have HS := Lib.hid hb
 clear hn hc hb
 have HX' := Lib.hid (fun e he => (HX.out e he).keeps (above_below (N := w.heap.size) HS.out))
 clear HX
 have HX := HX'
 clear HX'
 have HOK' := Lib.hid (fun e he => (HOK.out e he).keeps (above_below (N := w.heap.size) HS.out))
 clear HOK
 have HOK := HOK'
 clear HOK'
 have HO' := Lib.hid (HO.out.keeps (above_below (N := w.heap.size) HS.out))
 clear HO
 have HO := HO'
 clear HO'
 have HB' := Lib.hid (HB.out.trans (HS.out.mono HB.out.size))
 clear HB HS
 have HB := HB'
 clear HB'
 go_wp2_with fail
 refine (with_any x32 [⟨⟨#[99, 111, 100, 101]⟩, 0⟩] no33 nc33 0 0 _).mono ?_
 rintro e w34 ⟨rfl, hb⟩
 have HS := Lib.hid hb
 clear hb
 have HX' := Lib.hid (fun e he => (HX.out e he).keeps (above_below (N := w.heap.size) HS.out))
 clear HX
 have HX := HX'
 clear HX'
 have HOK' := Lib.hid (fun e he => (HOK.out e he).keeps (above_below (N := w.heap.size) HS.out))
 clear HOK
 have HOK := HOK'
 clear HOK'
 have HO' := Lib.hid (HO.out.keeps (above_below (N := w.heap.size) HS.out))
 clear HO
 have HO := HO'
 clear HO'
 have HN' := Lib.hid (HN.out.keeps (above_below (N := w.heap.size) HS.out))
 clear HN
 have HN := HN'
 clear HN'
 have HB' := Lib.hid (HB.out.trans (HS.out.mono HB.out.size))
 clear HB HS
 have HB := HB'
 clear HB'
 have HOK' := Lib.hid (dx_snoc HOK.out (dx_with HO.out HN.out HC.out 0 0) (Below.refl _ _))
 clear HOK HO HN HC
 have HOK := HOK'
 clear HOK'
 go_wp2_with fail
 refine (def_any ⟨#[99, 97, 108, 108]⟩ ⟨#[97, 110, 121, 42]⟩ ⟨#[97, 110, 121, 42]⟩ ⟨#[99, 97, 108, 108, 115, 44, 112, 114, 105, 110, 116, 115, 44, 114, 101, 97, 100, 115, 44, 116, 114, 97, 112, 115, 44, 119, 114, 105, 116, 101, 115]⟩ (by decide) (by decide) (by decide) _).mono ?_
 rintro e w35 ⟨x35, rfl, hd, ho, hb⟩
 have HDx35 := Lib.hid hd
 have HS := Lib.hid (after_alloc hb).1
 have HR := Lib.hid (after_alloc hb).2
 clear hb
 have HO := Lib.hid (ho.keeps (above_above (Nat.le_trans HB.out.size (by simp))))
 clear hd ho
 have HD_cf := Lib.hid (show DiaOK (above w.heap.size w35) ⟨⟨#[99, 102]⟩, [], [⟨⟨x28.d.name, x28.d.ins, x28.d.outs, [], 0, 1, x28.d.traits⟩, x28.io, x28.ic, x28.oo, x28.oc, none, 0, x28.ko, x28.kc⟩, ⟨⟨x30.d.name, x30.d.ins, x30.d.outs, [], 0, 2, x30.d.traits⟩, x30.io, x30.ic, x30.oo, x30.oc, none, 0, x30.ko, x30.kc⟩, ⟨⟨x32.d.name, x32.d.ins, x32.d.outs, [⟨⟨#[99, 111, 100, 101]⟩, 0⟩], 0, 0, x32.d.traits⟩, x32.io, x32.ic, x32.oo, x32.oc, no33, nc33, x32.ko, x32.kc⟩], none, 0, some ⟨w34.heap.size, 0, none⟩, 3⟩ from ⟨.inl rfl, ⟨row_is (T := 41) (above_heap HR.out HB.out.size), fun e he => (HOK.out e he).keeps (above_below HS.out)⟩, Nat.le_refl _, Nat.le_refl _⟩)
 have HX' := Lib.hid (dia_snoc HX.out HD_cf.out HS.out)
 have HOK' := Lib.hid (dx_none (V := above w.heap.size w35))
 clear HX HOK HR HD_cf
 have HX := HX'
 have HOK := HOK'
 clear HX' HOK'
 have HB' := Lib.hid (HB.out.trans (HS.out.mono HB.out.size))
 clear HB HS
 have HB := HB'
 clear HB'
 go_wp2_with fail
 refine (need_any ⟨#[99, 97, 108, 108, 101, 101]⟩ 2 _).mono ?_
 rintro e w36 ⟨no36, nc36, rfl, hn, hc, hb⟩
 have HN := Lib.hid (RowIs.keeps hn (above_above (N := w.heap.size) HB.out.size))
 have HC := Lib.hid (show ([⟨⟨#[99, 97, 108, 108, 101, 101]⟩, 2⟩] : List NeedD).length ≤ nc36 from hc)
 have HS := Lib.hid hb
 clear hn hc hb
 have HX' := Lib.hid (fun e he => (HX.out e he).keeps (above_below (N := w.heap.size) HS.out))
 clear HX
 have HX := HX'
 clear HX'
 have HOK' := Lib.hid (fun e he => (HOK.out e he).keeps (above_below (N := w.heap.size) HS.out))
 clear HOK
 have HOK := HOK'
 clear HOK'
 have HO' := Lib.hid (HO.out.keeps (above_below (N := w.heap.size) HS.out))
 clear HO
 have HO := HO'
 clear HO'
 have HB' := Lib.hid (HB.out.trans (HS.out.mono HB.out.size))
 clear HB HS
 have HB := HB'
 clear HB'
 go_wp2_with fail
 refine (with_any x35 [⟨⟨#[99, 97, 108, 108, 101, 101]⟩, 2⟩] no36 nc36 0 0 _).mono ?_
 rintro e w37 ⟨rfl, hb⟩
 have HS := Lib.hid hb
 clear hb
 have HX' := Lib.hid (fun e he => (HX.out e he).keeps (above_below (N := w.heap.size) HS.out))
 clear HX
 have HX := HX'
 clear HX'
 have HOK' := Lib.hid (fun e he => (HOK.out e he).keeps (above_below (N := w.heap.size) HS.out))
 clear HOK
 have HOK := HOK'
 clear HOK'
 have HO' := Lib.hid (HO.out.keeps (above_below (N := w.heap.size) HS.out))
 clear HO
 have HO := HO'
 clear HO'
 have HN' := Lib.hid (HN.out.keeps (above_below (N := w.heap.size) HS.out))
 clear HN
 have HN := HN'
 clear HN'
 have HB' := Lib.hid (HB.out.trans (HS.out.mono HB.out.size))
 clear HB HS
 have HB := HB'
 clear HB'
 have HOK' := Lib.hid (dx_snoc HOK.out (dx_with HO.out HN.out HC.out 0 0) (Below.refl _ _))
 clear HOK HO HN HC
 have HOK := HOK'
 clear HOK'
 go_wp2_with fail
 refine (def_any ⟨#[102, 117, 110, 99]⟩ ⟨#[]⟩ ⟨#[]⟩ ⟨#[98, 108, 111, 99, 107, 115]⟩ (by decide) (by decide) (by decide) _).mono ?_
 rintro e w38 ⟨x38, rfl, hd, ho, hb⟩
 have HDx38 := Lib.hid hd
 have HS := Lib.hid hb
 clear hb
 have HO := Lib.hid (ho.keeps (above_above HB.out.size))
 clear hd ho
 have HX' := Lib.hid (fun e he => (HX.out e he).keeps (above_below (N := w.heap.size) HS.out))
 clear HX
 have HX := HX'
 clear HX'
 have HOK' := Lib.hid (fun e he => (HOK.out e he).keeps (above_below (N := w.heap.size) HS.out))
 clear HOK
 have HOK := HOK'
 clear HOK'
 have HB' := Lib.hid (HB.out.trans (HS.out.mono HB.out.size))
 clear HB HS
 have HB := HB'
 clear HB'
 go_wp2_with fail
 refine (with_any x38 [⟨⟨#[110, 97, 109, 101]⟩, 2⟩, ⟨⟨#[114, 101, 115, 117, 108, 116, 115]⟩, 5⟩] (some ⟨w38.heap.size, 0, none⟩) 2 1 0 _).mono ?_
 rintro e w39 ⟨rfl, hb⟩
 have HS := Lib.hid (after_alloc hb).1
 have HN := Lib.hid (show NeedsAt (above w.heap.size w39) (some ⟨w38.heap.size, 0, none⟩) [⟨⟨#[110, 97, 109, 101]⟩, 2⟩, ⟨⟨#[114, 101, 115, 117, 108, 116, 115]⟩, 5⟩] from row_is (T := 104) (above_heap (after_alloc hb).2 HB.out.size))
 have HC := Lib.hid (show ([⟨⟨#[110, 97, 109, 101]⟩, 2⟩, ⟨⟨#[114, 101, 115, 117, 108, 116, 115]⟩, 5⟩] : List NeedD).length ≤ 2 from Nat.le_refl _)
 clear hb
 have HX' := Lib.hid (fun e he => (HX.out e he).keeps (above_below (N := w.heap.size) HS.out))
 clear HX
 have HX := HX'
 clear HX'
 have HOK' := Lib.hid (fun e he => (HOK.out e he).keeps (above_below (N := w.heap.size) HS.out))
 clear HOK
 have HOK := HOK'
 clear HOK'
 have HO' := Lib.hid (HO.out.keeps (above_below (N := w.heap.size) HS.out))
 clear HO
 have HO := HO'
 clear HO'
 have HB' := Lib.hid (HB.out.trans (HS.out.mono HB.out.size))
 clear HB HS
 have HB := HB'
 clear HB'
 have HOK' := Lib.hid (dx_snoc HOK.out (dx_with HO.out HN.out HC.out 1 0) (Below.refl _ _))
 clear HOK HO HN HC
 have HOK := HOK'
 clear HOK'
 go_wp2_with fail
 refine (def_any ⟨#[114, 101, 116, 117, 114, 110]⟩ ⟨#[97, 110, 121, 42]⟩ ⟨#[]⟩ ⟨#[101, 110, 100]⟩ (by decide) (by decide) (by decide) _).mono ?_
 rintro e w40 ⟨x40, rfl, hd, ho, hb⟩
 have HDx40 := Lib.hid hd
 have HS := Lib.hid hb
 clear hb
 have HO := Lib.hid (ho.keeps (above_above HB.out.size))
 clear hd ho
 have HX' := Lib.hid (fun e he => (HX.out e he).keeps (above_below (N := w.heap.size) HS.out))
 clear HX
 have HX := HX'
 clear HX'
 have HOK' := Lib.hid (fun e he => (HOK.out e he).keeps (above_below (N := w.heap.size) HS.out))
 clear HOK
 have HOK := HOK'
 clear HOK'
 have HB' := Lib.hid (HB.out.trans (HS.out.mono HB.out.size))
 clear HB HS
 have HB := HB'
 clear HB'
 have HOK' := Lib.hid (dx_snoc HOK.out HO.out (Below.refl _ _))
 clear HOK HO
 have HOK := HOK'
 clear HOK'
 go_wp2_with fail
 refine (def_any ⟨#[112, 114, 105, 110, 116]⟩ ⟨#[97, 58, 110, 117, 109]⟩ ⟨#[]⟩ ⟨#[112, 114, 105, 110, 116, 115]⟩ (by decide) (by decide) (by decide) _).mono ?_
 rintro e w41 ⟨x41, rfl, hd, ho, hb⟩
 have HDx41 := Lib.hid hd
 have HS := Lib.hid (after_alloc hb).1
 have HR := Lib.hid (after_alloc hb).2
 clear hb
 have HO := Lib.hid (ho.keeps (above_above (Nat.le_trans HB.out.size (by simp))))
 clear hd ho
 have HD_func := Lib.hid (show DiaOK (above w.heap.size w41) ⟨⟨#[102, 117, 110, 99]⟩, [], [⟨⟨x35.d.name, x35.d.ins, x35.d.outs, [⟨⟨#[99, 97, 108, 108, 101, 101]⟩, 2⟩], 0, 0, x35.d.traits⟩, x35.io, x35.ic, x35.oo, x35.oc, no36, nc36, x35.ko, x35.kc⟩, ⟨⟨x38.d.name, x38.d.ins, x38.d.outs, [⟨⟨#[110, 97, 109, 101]⟩, 2⟩, ⟨⟨#[114, 101, 115, 117, 108, 116, 115]⟩, 5⟩], 1, 0, x38.d.traits⟩, x38.io, x38.ic, x38.oo, x38.oc, (some ⟨w38.heap.size, 0, none⟩), 2, x38.ko, x38.kc⟩, x40], none, 0, some ⟨w40.heap.size, 0, none⟩, 3⟩ from ⟨.inl rfl, ⟨row_is (T := 41) (above_heap HR.out HB.out.size), fun e he => (HOK.out e he).keeps (above_below HS.out)⟩, Nat.le_refl _, Nat.le_refl _⟩)
 have HX' := Lib.hid (dia_snoc HX.out HD_func.out HS.out)
 have HOK' := Lib.hid (dx_none (V := above w.heap.size w41))
 clear HX HOK HR HD_func
 have HX := HX'
 have HOK := HOK'
 clear HX' HOK'
 have HB' := Lib.hid (HB.out.trans (HS.out.mono HB.out.size))
 clear HB HS
 have HB := HB'
 clear HB'
 have HOK' := Lib.hid (dx_snoc HOK.out HO.out (Below.refl _ _))
 clear HOK HO
 have HOK := HOK'
 clear HOK'
 go_wp2_with fail
 refine (def_any ⟨#[97, 108, 108, 111, 99]⟩ ⟨#[]⟩ ⟨#[97, 110, 121, 42]⟩ ⟨#[119, 114, 105, 116, 101, 115]⟩ (by decide) (by decide) (by decide) _).mono ?_
 rintro e w42 ⟨x42, rfl, hd, ho, hb⟩
 have HDx42 := Lib.hid hd
 have HS := Lib.hid (after_alloc hb).1
 have HR := Lib.hid (after_alloc hb).2
 clear hb
 have HO := Lib.hid (ho.keeps (above_above (Nat.le_trans HB.out.size (by simp))))
 clear hd ho
 have HD_io := Lib.hid (show DiaOK (above w.heap.size w42) ⟨⟨#[105, 111]⟩, [], [x41], none, 0, some ⟨w41.heap.size, 0, none⟩, 1⟩ from ⟨.inl rfl, ⟨row_is (T := 41) (above_heap HR.out HB.out.size), fun e he => (HOK.out e he).keeps (above_below HS.out)⟩, Nat.le_refl _, Nat.le_refl _⟩)
 have HX' := Lib.hid (dia_snoc HX.out HD_io.out HS.out)
 have HOK' := Lib.hid (dx_none (V := above w.heap.size w42))
 clear HX HOK HR HD_io
 have HX := HX'
 have HOK := HOK'
 clear HX' HOK'
 have HB' := Lib.hid (HB.out.trans (HS.out.mono HB.out.size))
 clear HB HS
 have HB := HB'
 clear HB'
 have HOK' := Lib.hid (dx_snoc HOK.out HO.out (Below.refl _ _))
 clear HOK HO
 have HOK := HOK'
 clear HOK'
 go_wp2_with fail
 refine (def_any ⟨#[99, 111, 112, 121]⟩ ⟨#[109, 58, 109, 101, 109, 44, 109]⟩ ⟨#[]⟩ ⟨#[114, 101, 97, 100, 115, 44, 119, 114, 105, 116, 101, 115]⟩ (by decide) (by decide) (by decide) _).mono ?_
 rintro e w43 ⟨x43, rfl, hd, ho, hb⟩
 have HDx43 := Lib.hid hd
 have HS := Lib.hid hb
 clear hb
 have HO := Lib.hid (ho.keeps (above_above HB.out.size))
 clear hd ho
 have HX' := Lib.hid (fun e he => (HX.out e he).keeps (above_below (N := w.heap.size) HS.out))
 clear HX
 have HX := HX'
 clear HX'
 have HOK' := Lib.hid (fun e he => (HOK.out e he).keeps (above_below (N := w.heap.size) HS.out))
 clear HOK
 have HOK := HOK'
 clear HOK'
 have HB' := Lib.hid (HB.out.trans (HS.out.mono HB.out.size))
 clear HB HS
 have HB := HB'
 clear HB'
 have HOK' := Lib.hid (dx_snoc HOK.out HO.out (Below.refl _ _))
 clear HOK HO
 have HOK := HOK'
 clear HOK'
 go_wp2_with fail
 refine (def_any ⟨#[108, 111, 97, 100]⟩ ⟨#[109, 58, 109, 101, 109, 44, 105, 110, 100, 101, 120, 94, 109]⟩ ⟨#[101, 108, 101, 109, 32, 109]⟩ ⟨#[114, 101, 97, 100, 115, 44, 116, 114, 97, 112, 115]⟩ (by decide) (by decide) (by decide) _).mono ?_
 rintro e w44 ⟨x44, rfl, hd, ho, hb⟩
 have HDx44 := Lib.hid hd
 have HS := Lib.hid hb
 clear hb
 have HO := Lib.hid (ho.keeps (above_above HB.out.size))
 clear hd ho
 have HX' := Lib.hid (fun e he => (HX.out e he).keeps (above_below (N := w.heap.size) HS.out))
 clear HX
 have HX := HX'
 clear HX'
 have HOK' := Lib.hid (fun e he => (HOK.out e he).keeps (above_below (N := w.heap.size) HS.out))
 clear HOK
 have HOK := HOK'
 clear HOK'
 have HB' := Lib.hid (HB.out.trans (HS.out.mono HB.out.size))
 clear HB HS
 have HB := HB'
 clear HB'
 have HOK' := Lib.hid (dx_snoc HOK.out HO.out (Below.refl _ _))
 clear HOK HO
 have HOK := HOK'
 clear HOK'
 go_wp2_with fail
 refine (def_any ⟨#[115, 116, 111, 114, 101]⟩ ⟨#[109, 58, 109, 101, 109, 44, 101, 108, 101, 109, 32, 109, 44, 105, 110, 100, 101, 120, 94, 109]⟩ ⟨#[]⟩ ⟨#[116, 114, 97, 112, 115, 44, 119, 114, 105, 116, 101, 115]⟩ (by decide) (by decide) (by decide) _).mono ?_
 rintro e w45 ⟨x45, rfl, hd, ho, hb⟩
 have HDx45 := Lib.hid hd
 have HS := Lib.hid hb
 clear hb
 have HO := Lib.hid (ho.keeps (above_above HB.out.size))
 clear hd ho
 have HX' := Lib.hid (fun e he => (HX.out e he).keeps (above_below (N := w.heap.size) HS.out))
 clear HX
 have HX := HX'
 clear HX'
 have HOK' := Lib.hid (fun e he => (HOK.out e he).keeps (above_below (N := w.heap.size) HS.out))
 clear HOK
 have HOK := HOK'
 clear HOK'
 have HB' := Lib.hid (HB.out.trans (HS.out.mono HB.out.size))
 clear HB HS
 have HB := HB'
 clear HB'
 have HOK' := Lib.hid (dx_snoc HOK.out HO.out (Below.refl _ _))
 clear HOK HO
 have HOK := HOK'
 clear HOK'
 go_wp2_with fail
 refine (def_any ⟨#[99, 111, 110, 100]⟩ ⟨#[105, 49, 44, 97, 110, 121, 42]⟩ ⟨#[]⟩ ⟨#[101, 110, 100]⟩ (by decide) (by decide) (by decide) _).mono ?_
 rintro e w46 ⟨x46, rfl, hd, ho, hb⟩
 have HDx46 := Lib.hid hd
 have HS := Lib.hid (after_alloc hb).1
 have HR := Lib.hid (after_alloc hb).2
 clear hb
 have HO := Lib.hid (ho.keeps (above_above (Nat.le_trans HB.out.size (by simp))))
 clear hd ho
 have HD_mem := Lib.hid (show DiaOK (above w.heap.size w46) ⟨⟨#[109, 101, 109]⟩, [], [x42, x43, x44, x45], none, 0, some ⟨w45.heap.size, 0, none⟩, 4⟩ from ⟨.inl rfl, ⟨row_is (T := 41) (above_heap HR.out HB.out.size), fun e he => (HOK.out e he).keeps (above_below HS.out)⟩, Nat.le_refl _, Nat.le_refl _⟩)
 have HX' := Lib.hid (dia_snoc HX.out HD_mem.out HS.out)
 have HOK' := Lib.hid (dx_none (V := above w.heap.size w46))
 clear HX HOK HR HD_mem
 have HX := HX'
 have HOK := HOK'
 clear HX' HOK'
 have HB' := Lib.hid (HB.out.trans (HS.out.mono HB.out.size))
 clear HB HS
 have HB := HB'
 clear HB'
 have HOK' := Lib.hid (dx_snoc HOK.out HO.out (Below.refl _ _))
 clear HOK HO
 have HOK := HOK'
 clear HOK'
 go_wp2_with fail
 refine (def_any ⟨#[102, 111, 114]⟩ ⟨#[105, 110, 100, 101, 120, 44, 105, 110, 100, 101, 120, 44, 97, 110, 121, 42]⟩ ⟨#[97, 110, 121, 42]⟩ ⟨#[]⟩ (by decide) (by decide) (by decide) _).mono ?_
 rintro e w47 ⟨x47, rfl, hd, ho, hb⟩
 have HDx47 := Lib.hid hd
 have HS := Lib.hid hb
 clear hb
 have HO := Lib.hid (ho.keeps (above_above HB.out.size))
 clear hd ho
 have HX' := Lib.hid (fun e he => (HX.out e he).keeps (above_below (N := w.heap.size) HS.out))
 clear HX
 have HX := HX'
 clear HX'
 have HOK' := Lib.hid (fun e he => (HOK.out e he).keeps (above_below (N := w.heap.size) HS.out))
 clear HOK
 have HOK := HOK'
 clear HOK'
 have HB' := Lib.hid (HB.out.trans (HS.out.mono HB.out.size))
 clear HB HS
 have HB := HB'
 clear HB'
 go_wp2_with fail
 refine (need_any ⟨#[115, 116, 101, 112]⟩ 0 _).mono ?_
 rintro e w48 ⟨no48, nc48, rfl, hn, hc, hb⟩
 have HN := Lib.hid (RowIs.keeps hn (above_above (N := w.heap.size) HB.out.size))
 have HC := Lib.hid (show ([⟨⟨#[115, 116, 101, 112]⟩, 0⟩] : List NeedD).length ≤ nc48 from hc)
 have HS := Lib.hid hb
 clear hn hc hb
 have HX' := Lib.hid (fun e he => (HX.out e he).keeps (above_below (N := w.heap.size) HS.out))
 clear HX
 have HX := HX'
 clear HX'
 have HOK' := Lib.hid (fun e he => (HOK.out e he).keeps (above_below (N := w.heap.size) HS.out))
 clear HOK
 have HOK := HOK'
 clear HOK'
 have HO' := Lib.hid (HO.out.keeps (above_below (N := w.heap.size) HS.out))
 clear HO
 have HO := HO'
 clear HO'
 have HB' := Lib.hid (HB.out.trans (HS.out.mono HB.out.size))
 clear HB HS
 have HB := HB'
 clear HB'
 go_wp2_with fail
 refine (with_any x47 [⟨⟨#[115, 116, 101, 112]⟩, 0⟩] no48 nc48 1 0 _).mono ?_
 rintro e w49 ⟨rfl, hb⟩
 have HS := Lib.hid hb
 clear hb
 have HX' := Lib.hid (fun e he => (HX.out e he).keeps (above_below (N := w.heap.size) HS.out))
 clear HX
 have HX := HX'
 clear HX'
 have HOK' := Lib.hid (fun e he => (HOK.out e he).keeps (above_below (N := w.heap.size) HS.out))
 clear HOK
 have HOK := HOK'
 clear HOK'
 have HO' := Lib.hid (HO.out.keeps (above_below (N := w.heap.size) HS.out))
 clear HO
 have HO := HO'
 clear HO'
 have HN' := Lib.hid (HN.out.keeps (above_below (N := w.heap.size) HS.out))
 clear HN
 have HN := HN'
 clear HN'
 have HB' := Lib.hid (HB.out.trans (HS.out.mono HB.out.size))
 clear HB HS
 have HB := HB'
 clear HB'
 have HOK' := Lib.hid (dx_snoc HOK.out (dx_with HO.out HN.out HC.out 1 0) (Below.refl _ _))
 clear HOK HO HN HC
 have HOK := HOK'
 clear HOK'
 go_wp2_with fail
 refine (def_any ⟨#[105, 102]⟩ ⟨#[105, 49]⟩ ⟨#[97, 110, 121, 42]⟩ ⟨#[]⟩ (by decide) (by decide) (by decide) _).mono ?_
 rintro e w50 ⟨x50, rfl, hd, ho, hb⟩
 have HDx50 := Lib.hid hd
 have HS := Lib.hid hb
 clear hb
 have HO := Lib.hid (ho.keeps (above_above HB.out.size))
 clear hd ho
 have HX' := Lib.hid (fun e he => (HX.out e he).keeps (above_below (N := w.heap.size) HS.out))
 clear HX
 have HX := HX'
 clear HX'
 have HOK' := Lib.hid (fun e he => (HOK.out e he).keeps (above_below (N := w.heap.size) HS.out))
 clear HOK
 have HOK := HOK'
 clear HOK'
 have HB' := Lib.hid (HB.out.trans (HS.out.mono HB.out.size))
 clear HB HS
 have HB := HB'
 clear HB'
 go_wp2_with fail
 refine (with_any x50 [] none 0 2 0 _).mono ?_
 rintro e w51 ⟨rfl, hb⟩
 have HS := Lib.hid hb
 clear hb
 have HX' := Lib.hid (fun e he => (HX.out e he).keeps (above_below (N := w.heap.size) HS.out))
 clear HX
 have HX := HX'
 clear HX'
 have HOK' := Lib.hid (fun e he => (HOK.out e he).keeps (above_below (N := w.heap.size) HS.out))
 clear HOK
 have HOK := HOK'
 clear HOK'
 have HO' := Lib.hid (HO.out.keeps (above_below (N := w.heap.size) HS.out))
 clear HO
 have HO := HO'
 clear HO'
 have HB' := Lib.hid (HB.out.trans (HS.out.mono HB.out.size))
 clear HB HS
 have HB := HB'
 clear HB'
 have HN := Lib.hid (show NeedsAt (above w.heap.size w51) none [] from .inl rfl)
 have HC := Lib.hid (show ([] : List NeedD).length ≤ 0 from Nat.le_refl _)
 have HOK' := Lib.hid (dx_snoc HOK.out (dx_with HO.out HN.out HC.out 2 0) (Below.refl _ _))
 clear HOK HO HN HC
 have HOK := HOK'
 clear HOK'
 go_wp2_with fail
 refine (def_any ⟨#[119, 104, 105, 108, 101]⟩ ⟨#[97, 110, 121, 42]⟩ ⟨#[97, 110, 121, 42]⟩ ⟨#[]⟩ (by decide) (by decide) (by decide) _).mono ?_
 rintro e w52 ⟨x52, rfl, hd, ho, hb⟩
 have HDx52 := Lib.hid hd
 have HS := Lib.hid hb
 clear hb
 have HO := Lib.hid (ho.keeps (above_above HB.out.size))
 clear hd ho
 have HX' := Lib.hid (fun e he => (HX.out e he).keeps (above_below (N := w.heap.size) HS.out))
 clear HX
 have HX := HX'
 clear HX'
 have HOK' := Lib.hid (fun e he => (HOK.out e he).keeps (above_below (N := w.heap.size) HS.out))
 clear HOK
 have HOK := HOK'
 clear HOK'
 have HB' := Lib.hid (HB.out.trans (HS.out.mono HB.out.size))
 clear HB HS
 have HB := HB'
 clear HB'
 go_wp2_with fail
 refine (with_any x52 [] none 0 2 0 _).mono ?_
 rintro e w53 ⟨rfl, hb⟩
 have HS := Lib.hid hb
 clear hb
 have HX' := Lib.hid (fun e he => (HX.out e he).keeps (above_below (N := w.heap.size) HS.out))
 clear HX
 have HX := HX'
 clear HX'
 have HOK' := Lib.hid (fun e he => (HOK.out e he).keeps (above_below (N := w.heap.size) HS.out))
 clear HOK
 have HOK := HOK'
 clear HOK'
 have HO' := Lib.hid (HO.out.keeps (above_below (N := w.heap.size) HS.out))
 clear HO
 have HO := HO'
 clear HO'
 have HB' := Lib.hid (HB.out.trans (HS.out.mono HB.out.size))
 clear HB HS
 have HB := HB'
 clear HB'
 have HN := Lib.hid (show NeedsAt (above w.heap.size w53) none [] from .inl rfl)
 have HC := Lib.hid (show ([] : List NeedD).length ≤ 0 from Nat.le_refl _)
 have HOK' := Lib.hid (dx_snoc HOK.out (dx_with HO.out HN.out HC.out 2 0) (Below.refl _ _))
 clear HOK HO HN HC
 have HOK := HOK'
 clear HOK'
 go_wp2_with fail
 refine (def_any ⟨#[121, 105, 101, 108, 100]⟩ ⟨#[97, 110, 121, 42]⟩ ⟨#[]⟩ ⟨#[101, 110, 100]⟩ (by decide) (by decide) (by decide) _).mono ?_
 rintro e w54 ⟨x54, rfl, hd, ho, hb⟩
 have HDx54 := Lib.hid hd
 have HS := Lib.hid hb
 clear hb
 have HO := Lib.hid (ho.keeps (above_above HB.out.size))
 clear hd ho
 have HX' := Lib.hid (fun e he => (HX.out e he).keeps (above_below (N := w.heap.size) HS.out))
 clear HX
 have HX := HX'
 clear HX'
 have HOK' := Lib.hid (fun e he => (HOK.out e he).keeps (above_below (N := w.heap.size) HS.out))
 clear HOK
 have HOK := HOK'
 clear HOK'
 have HB' := Lib.hid (HB.out.trans (HS.out.mono HB.out.size))
 clear HB HS
 have HB := HB'
 clear HB'
 have HOK' := Lib.hid (dx_snoc HOK.out HO.out (Below.refl _ _))
 clear HOK HO
 have HOK := HOK'
 clear HOK'
 go_wp2_with fail
 go_ret
 refine diasPost (xs := [⟨⟨#[97, 114, 105, 116, 104]⟩, [], [x1, x2, x3, ⟨⟨x4.d.name, x4.d.ins, x4.d.outs, [⟨⟨#[112, 114, 101, 100]⟩, 1⟩], 0, 0, x4.d.traits⟩, x4.io, x4.ic, x4.oo, x4.oc, no5, nc5, x4.ko, x4.kc⟩, ⟨⟨x7.d.name, x7.d.ins, x7.d.outs, [⟨⟨#[118, 97, 108, 117, 101]⟩, 0⟩], 0, 0, x7.d.traits⟩, x7.io, x7.ic, x7.oo, x7.oc, no8, nc8, x7.ko, x7.kc⟩, x10, x11, x12, x13, x14, x15, x16, x17, x18, x19, x20, x21, x22, x23, x24], none, 0, some ⟨w24.heap.size, 0, none⟩, 20⟩, ⟨⟨#[97, 114, 114]⟩, [], [x25, x26, x27], none, 0, some ⟨w27.heap.size, 0, none⟩, 3⟩, ⟨⟨#[99, 102]⟩, [], [⟨⟨x28.d.name, x28.d.ins, x28.d.outs, [], 0, 1, x28.d.traits⟩, x28.io, x28.ic, x28.oo, x28.oc, none, 0, x28.ko, x28.kc⟩, ⟨⟨x30.d.name, x30.d.ins, x30.d.outs, [], 0, 2, x30.d.traits⟩, x30.io, x30.ic, x30.oo, x30.oc, none, 0, x30.ko, x30.kc⟩, ⟨⟨x32.d.name, x32.d.ins, x32.d.outs, [⟨⟨#[99, 111, 100, 101]⟩, 0⟩], 0, 0, x32.d.traits⟩, x32.io, x32.ic, x32.oo, x32.oc, no33, nc33, x32.ko, x32.kc⟩], none, 0, some ⟨w34.heap.size, 0, none⟩, 3⟩, ⟨⟨#[102, 117, 110, 99]⟩, [], [⟨⟨x35.d.name, x35.d.ins, x35.d.outs, [⟨⟨#[99, 97, 108, 108, 101, 101]⟩, 2⟩], 0, 0, x35.d.traits⟩, x35.io, x35.ic, x35.oo, x35.oc, no36, nc36, x35.ko, x35.kc⟩, ⟨⟨x38.d.name, x38.d.ins, x38.d.outs, [⟨⟨#[110, 97, 109, 101]⟩, 2⟩, ⟨⟨#[114, 101, 115, 117, 108, 116, 115]⟩, 5⟩], 1, 0, x38.d.traits⟩, x38.io, x38.ic, x38.oo, x38.oc, (some ⟨w38.heap.size, 0, none⟩), 2, x38.ko, x38.kc⟩, x40], none, 0, some ⟨w40.heap.size, 0, none⟩, 3⟩, ⟨⟨#[105, 111]⟩, [], [x41], none, 0, some ⟨w41.heap.size, 0, none⟩, 1⟩, ⟨⟨#[109, 101, 109]⟩, [], [x42, x43, x44, x45], none, 0, some ⟨w45.heap.size, 0, none⟩, 4⟩, ⟨⟨#[115, 99, 102]⟩, [], [x46, ⟨⟨x47.d.name, x47.d.ins, x47.d.outs, [⟨⟨#[115, 116, 101, 112]⟩, 0⟩], 1, 0, x47.d.traits⟩, x47.io, x47.ic, x47.oo, x47.oc, no48, nc48, x47.ko, x47.kc⟩, ⟨⟨x50.d.name, x50.d.ins, x50.d.outs, [], 2, 0, x50.d.traits⟩, x50.io, x50.ic, x50.oo, x50.oc, none, 0, x50.ko, x50.kc⟩, ⟨⟨x52.d.name, x52.d.ins, x52.d.outs, [], 2, 0, x52.d.traits⟩, x52.io, x52.ic, x52.oo, x52.oc, none, 0, x52.ko, x52.kc⟩, x54], none, 0, some ⟨w54.heap.size, 0, none⟩, 5⟩]) rfl ?_ (row_is (T := 87) (above_heap (second_block _ _ _) (Nat.le_succ_of_le HB.out.size))) (dia_snoc HX.out ⟨.inl rfl, ⟨row_is (T := 41) (above_heap (first_block _ _ _) HB.out.size), fun e he => (HOK.out e he).keeps (above_below (two_below _ _ _))⟩, Nat.le_refl _, Nat.le_refl _⟩ (two_below _ _ _)) (Nat.le_refl _) (HB.out.trans ((two_below _ _ _).mono HB.out.size))
 simp only [List.map_cons, List.map_nil, XEl.d, HDx1.out, HDx2.out, HDx3.out, HDx4.out, HDx7.out, HDx10.out, HDx11.out, HDx12.out, HDx13.out, HDx14.out, HDx15.out, HDx16.out, HDx17.out, HDx18.out, HDx19.out, HDx20.out, HDx21.out, HDx22.out, HDx23.out, HDx24.out, HDx25.out, HDx26.out, HDx27.out, HDx28.out, HDx30.out, HDx32.out, HDx35.out, HDx38.out, HDx40.out, HDx41.out, HDx42.out, HDx43.out, HDx44.out, HDx45.out, HDx46.out, HDx47.out, HDx50.out, HDx52.out, HDx54.out]
 rfl
end Go.Proofs.YtgimdkgjfenafaaGreatDoor
