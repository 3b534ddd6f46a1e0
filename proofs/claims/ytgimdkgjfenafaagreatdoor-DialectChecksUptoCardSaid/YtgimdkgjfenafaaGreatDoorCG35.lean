import Derived.Test.YtgimdkgjfenafaaGreatDoorCG34
import Derived.Test.YtgimdkgjfenafaaGreatDoorCG23
import Derived.Deep.RegionHeld3
namespace Go.Proofs.YtgimdkgjfenafaaGreatDoor
open Go.RowKit
def regionOf (n : Nat) : Code → Option Code
 | .region id ops d => if id = n then some (.region id ops d) else none
 | .seq a b => match regionOf n a with
  | some c => some c
  | none => regionOf n b
 | .cond _ a b => match regionOf n a with
  | some c => some c
  | none => regionOf n b
 | .block _ c => regionOf n c
 | .loop c => regionOf n c
 | .scope c => regionOf n c
 | _ => none
def opsIn : Code → Array Oper
 | .region _ ops _ => ops
 | _ => #[]
noncomputable def reg21 : Code := (Tryz.f24.body.bind (regionOf 21)).getD .skip
noncomputable def ops21 : Array Oper := opsIn reg21
structure RrS (x : DEl) (w X : World) : Prop where
 t0 : X.heap[w.heap.size]? = some (.cells #[.string x.d.name, .slice x.io x.d.ins.length x.ic, .slice x.oo x.d.outs.length x.oc, .slice x.no x.d.needs.length x.nc, .int .i64 x.d.regions, .int .i64 x.d.succs, .slice x.ko x.d.traits.length x.kc] 41 (0, 0))
 below : Below w.heap.size w X
theorem RrS.moved {x : DEl} {w X X' : World} (h : RrS x w X) (hb : Below X.heap.size X X') : RrS x w X' := ⟨(hb.block _ (lt_of_block h.t0)).trans h.t0, h.below.trans (hb.mono h.below.size)⟩
theorem RrS.grown {x : DEl} {w X X' : World} (h : RrS x w X) (hg : X.grownBy X' (some (w.heap.size + 1))) : RrS x w X' := ⟨(hg.block _ (lt_of_block h.t0) (by simp)).trans h.t0, h.below.grown hg h.below.size (fun k e => by cases e; omega)⟩
theorem RrS.stored {x : DEl} {w X : World} (h : RrS x w X) {b : Nat} (hb : w.heap.size < b) {u0 u1 u2 : Value} : RrS x w (((X.setCell ⟨b, 0, none⟩ u0).setCell ⟨b, 1, none⟩ u1).setCell ⟨b, 2, none⟩ u2) :=
 ⟨(set3_other (by omega)).trans h.t0, below_set3 h.below (by omega)⟩
structure IsV (X : World) (w : World) (d : Nat) : Prop where
 heap : X.heap[d]? = some (.cells #[.int .i64 0, .int .u8 0, .string ⟨#[]⟩] 119 (0, 0))
 lt : w.heap.size < d
theorem IsV.moved {X X' w : World} {d : Nat} (h : IsV X w d) (hb : Below X.heap.size X X') : IsV X' w d := ⟨(hb.block _ (lt_of_block h.heap)).trans h.heap, h.lt⟩
set_option maxHeartbeats 8000000 in
set_option maxRecDepth 100000 in
theorem nd_abpq {x : DEl} {w : World} {a : Addr} {s0 s1 : ByteArray} {Q : Exit → Act → World → Prop} {u0 u2 u3 u4 u5 u8 u9 u10 u11 u12 u13 u14 u15 u16 u17 u18 u19 u20 u21 u22 u23 u24 u25 u26 u27 u28 u29 u30 u31 u32 u33 u34 u35 u36 u37 u38 u39 u40 u41 u42 u43 u44 u45 u46 u47 u48 u49 u50 u51 u52 u53 u54 u55 u56 u57 u58 u59 u60 u61 u62 u63 u64 u65 u66 u67 u68 u69 u70 u71 u72 u73 u74 u75 u76 u77 u78 u79 u80 u81 u82 u83 u84 u85 u86 u87 u88 u89 u90 u91 u92 u93 u94 u95 u96 u97 u98 u99 u100 u101 u102 u103 u104 u105 u106 u107 u108 u109 u110 u111 u112 u113 u114 u115 u116 u117 u118 u119 u120 u121 u122 u123 u124 u125 u126 u127 u128 u129 u130 u131 u132 u133 u134 u135 u136 u137 u138 u139 u140 u141 u142 u143 u144 u145 u146 u147 u148 u149 u150 u151 u152 u153 u154 u155 u156 u157 u158 u159 u160 u161 u162 u163 u164 u165 u166 u167 u168 u169 u170 u171 u172 u173 u174 u175 u176 u177 u178 u179 u180 u181 u182 u193 u194 u195 u196 u197 u198 u199 u200 u201 u202 u203 u204 u205 u206 u207 : Value}
  (_ : s0.size ≤ 9223372036854775807) (_ : s1.size ≤ 9223372036854775807) (_ : ∀ c b d v X, Q (.panic c) (Act.put b d v) X → Q (.panic c) b X) (hK : ∀ (X : World) (da db : Nat), Hid (RrS x w X ∧ X.heap[da]? = some (.cells #[.int .i64 (ruleOf s0).sortR, .int .u8 ((ruleOf s0).v.toNat : Int), .string (ruleOf s0).whatR] 119 (0, 0)) ∧ X.heap[db]? = some (.cells #[.int .i64 (ruleOf s1).sortR, .int .u8 ((ruleOf s1).v.toNat : Int), .string (ruleOf s1).whatR] 119 (0, 0))) → Q .normal ⟨#[u0, .pointer (some ⟨w.heap.size, 0, none⟩), u2, u3, u4, u5, .pointer (some ⟨da, 0, none⟩), .pointer (some ⟨db, 0, none⟩), u8, u9, u10, u11, u12, u13, u14, u15, u16, u17, u18, u19, u20, u21, u22, u23, u24, u25, u26, u27, u28, u29, u30, u31, u32, u33, u34, u35, u36, u37, u38, u39, u40, u41, u42, u43, u44, u45, u46, u47, u48, u49, u50, u51, u52, u53, u54, u55, u56, u57, u58, u59, u60, u61, u62, u63, u64, u65, u66, u67, u68, u69, u70, u71, u72, u73, u74, u75, u76, u77, u78, u79, u80, u81, u82, u83, u84, u85, u86, u87, u88, u89, u90, u91, u92, u93, u94, u95, u96, u97, u98, u99, u100, u101, u102, u103, u104, u105, u106, u107, u108, u109, u110, u111, u112, u113, u114, u115, u116, u117, u118, u119, u120, u121, u122, u123, u124, u125, u126, u127, u128, u129, u130, u131, u132, u133, u134, u135, u136, u137, u138, u139, u140, u141, u142, u143, u144, u145, u146, u147, u148, u149, u150, u151, u152, u153, u154, u155, u156, u157, u158, u159, u160, u161, u162, u163, u164, u165, u166, u167, u168, u169, u170, u171, u172, u173, u174, u175, u176, u177, u178, u179, u180, u181, u182, .pointer (some ⟨w.heap.size, 1, none⟩), .slice (some a) x.d.ins.length x.ic, .pointer (some (a.add 0)), .string s0, .agg #[.int .i64 (ruleOf s0).sortR, .int .u8 ((ruleOf s0).v.toNat : Int), .string (ruleOf s0).whatR], .pointer (some ⟨w.heap.size, 1, none⟩), .slice (some a) x.d.ins.length x.ic, .pointer (some (a.add 1)), .string s1, .agg #[.int .i64 (ruleOf s1).sortR, .int .u8 ((ruleOf s1).v.toNat : Int), .string (ruleOf s1).whatR], u193, u194, u195, u196, u197, u198, u199, u200, u201, u202, u203, u204, u205, u206, u207], []⟩ X) (X : World) (hHeld : Hid (RrS x w X)) (da : Nat) (HA : Hid (IsV X w da)) (db : Nat) (HB : Hid (IsV X w db)) (HNE : Hid (da ≠ db))
  {lst : Array Bool} (hl : lst = #[true, true, true, true, true, true, true, true, true, true, true, true, false, false]) : wpAnyH Tryz.prog .any ops21 Q (fun w' => Hid (RrS x w w')) 2 lst ⟨#[u0, .pointer (some ⟨w.heap.size, 0, none⟩), u2, u3, u4, u5, .pointer (some ⟨da, 0, none⟩), .pointer (some ⟨db, 0, none⟩), u8, u9, u10, u11, u12, u13, u14, u15, u16, u17, u18, u19, u20, u21, u22, u23, u24, u25, u26, u27, u28, u29, u30, u31, u32, u33, u34, u35, u36, u37, u38, u39, u40, u41, u42, u43, u44, u45, u46, u47, u48, u49, u50, u51, u52, u53, u54, u55, u56, u57, u58, u59, u60, u61, u62, u63, u64, u65, u66, u67, u68, u69, u70, u71, u72, u73, u74, u75, u76, u77, u78, u79, u80, u81, u82, u83, u84, u85, u86, u87, u88, u89, u90, u91, u92, u93, u94, u95, u96, u97, u98, u99, u100, u101, u102, u103, u104, u105, u106, u107, u108, u109, u110, u111, u112, u113, u114, u115, u116, u117, u118, u119, u120, u121, u122, u123, u124, u125, u126, u127, u128, u129, u130, u131, u132, u133, u134, u135, u136, u137, u138, u139, u140, u141, u142, u143, u144, u145, u146, u147, u148, u149, u150, u151, u152, u153, u154, u155, u156, u157, u158, u159, u160, u161, u162, u163, u164, u165, u166, u167, u168, u169, u170, u171, u172, u173, u174, u175, u176, u177, u178, u179, u180, u181, u182, .pointer (some ⟨w.heap.size, 1, none⟩), .slice (some a) x.d.ins.length x.ic, .pointer (some (a.add 0)), .string s0, .agg #[.int .i64 (ruleOf s0).sortR, .int .u8 ((ruleOf s0).v.toNat : Int), .string (ruleOf s0).whatR], .pointer (some ⟨w.heap.size, 1, none⟩), .slice (some a) x.d.ins.length x.ic, .pointer (some (a.add 1)), .string s1, .agg #[.int .i64 (ruleOf s1).sortR, .int .u8 ((ruleOf s1).v.toNat : Int), .string (ruleOf s1).whatR], u193, u194, u195, u196, u197, u198, u199, u200, u201, u202, u203, u204, u205, u206, u207], []⟩ X := by
 subst hl
 conv => arg 3; whnf
 obtain ⟨b0, b1, b2, bf⟩ := cells3 HA.out.heap
 refine wpAnyH_ready (rs := [12]) (by kernel_rfl) (by simp) ?_
 refine AllReadyH.cons rfl (fun K hK2 => ?_) AllReadyH.nil
 go_simp
 refine hK2.out _ _ (show Hid (RrS x w _) from hHeld.out.stored HA.out.lt) (fun h1 => ?_)
 clear hK2 K b0 b1 b2 bf hHeld
 have hHeld := h1
 clear h1
 have HA2 := Lib.hid (set3_block (u0 := .int .i64 (ruleOf s0).sortR) (u1 := .int .u8 ((ruleOf s0).v.toNat : Int)) (u2 := .string (ruleOf s0).whatR) HA.out.heap)
 have HB2 := Lib.hid ((set3_other (u0 := .int .i64 (ruleOf s0).sortR) (u1 := .int .u8 ((ruleOf s0).v.toNat : Int)) (u2 := .string (ruleOf s0).whatR) (Ne.symm HNE.out)).trans HB.out.heap)
 try simp only [sD, sE, sF]
 generalize (((X.setCell ⟨da, 0, none⟩ (.int .i64 (ruleOf s0).sortR)).setCell ⟨da, 1, none⟩ (.int .u8 ((ruleOf s0).v.toNat : Int))).setCell ⟨da, 2, none⟩ (.string (ruleOf s0).whatR)) = Y at hHeld HA2 HB2 ⊢
 obtain ⟨b0, b1, b2, bf⟩ := cells3 HB2.out
 refine wpAnyH_ready (rs := [13]) (by kernel_rfl) (by simp) ?_
 refine AllReadyH.cons rfl (fun K hK2 => ?_) AllReadyH.nil
 go_simp
 refine hK2.out _ _ (show Hid (RrS x w _) from hHeld.out.stored HB.out.lt) (fun h1 => ?_)
 clear hK2 K b0 b1 b2 bf
 have HB3 := Lib.hid (set3_block (u0 := .int .i64 (ruleOf s1).sortR) (u1 := .int .u8 ((ruleOf s1).v.toNat : Int)) (u2 := .string (ruleOf s1).whatR) HB2.out)
 have HA3 := Lib.hid ((set3_other (u0 := .int .i64 (ruleOf s1).sortR) (u1 := .int .u8 ((ruleOf s1).v.toNat : Int)) (u2 := .string (ruleOf s1).whatR) HNE.out).trans HA2.out)
 try simp only [sD, sE, sF]
 exact wpAnyH_done (by kernel_rfl) (hK _ da db ⟨h1.out, HA3.out, HB3.out⟩) _
set_option maxHeartbeats 8000000 in
set_option maxRecDepth 100000 in
theorem nd_abp {x : DEl} {w : World} {a : Addr} {s0 s1 : ByteArray} {Q : Exit → Act → World → Prop} {u0 u2 u3 u4 u5 u8 u9 u10 u11 u12 u13 u14 u15 u16 u17 u18 u19 u20 u21 u22 u23 u24 u25 u26 u27 u28 u29 u30 u31 u32 u33 u34 u35 u36 u37 u38 u39 u40 u41 u42 u43 u44 u45 u46 u47 u48 u49 u50 u51 u52 u53 u54 u55 u56 u57 u58 u59 u60 u61 u62 u63 u64 u65 u66 u67 u68 u69 u70 u71 u72 u73 u74 u75 u76 u77 u78 u79 u80 u81 u82 u83 u84 u85 u86 u87 u88 u89 u90 u91 u92 u93 u94 u95 u96 u97 u98 u99 u100 u101 u102 u103 u104 u105 u106 u107 u108 u109 u110 u111 u112 u113 u114 u115 u116 u117 u118 u119 u120 u121 u122 u123 u124 u125 u126 u127 u128 u129 u130 u131 u132 u133 u134 u135 u136 u137 u138 u139 u140 u141 u142 u143 u144 u145 u146 u147 u148 u149 u150 u151 u152 u153 u154 u155 u156 u157 u158 u159 u160 u161 u162 u163 u164 u165 u166 u167 u168 u169 u170 u171 u172 u173 u174 u175 u176 u177 u178 u179 u180 u181 u182 u193 u194 u195 u196 u197 u198 u199 u200 u201 u202 u203 u204 u205 u206 u207 : Value}
  (hz0 : s0.size ≤ 9223372036854775807) (hz1 : s1.size ≤ 9223372036854775807) (hP : ∀ c b d v X, Q (.panic c) (Act.put b d v) X → Q (.panic c) b X) (hK : ∀ (X : World) (da db : Nat), Hid (RrS x w X ∧ X.heap[da]? = some (.cells #[.int .i64 (ruleOf s0).sortR, .int .u8 ((ruleOf s0).v.toNat : Int), .string (ruleOf s0).whatR] 119 (0, 0)) ∧ X.heap[db]? = some (.cells #[.int .i64 (ruleOf s1).sortR, .int .u8 ((ruleOf s1).v.toNat : Int), .string (ruleOf s1).whatR] 119 (0, 0))) → Q .normal ⟨#[u0, .pointer (some ⟨w.heap.size, 0, none⟩), u2, u3, u4, u5, .pointer (some ⟨da, 0, none⟩), .pointer (some ⟨db, 0, none⟩), u8, u9, u10, u11, u12, u13, u14, u15, u16, u17, u18, u19, u20, u21, u22, u23, u24, u25, u26, u27, u28, u29, u30, u31, u32, u33, u34, u35, u36, u37, u38, u39, u40, u41, u42, u43, u44, u45, u46, u47, u48, u49, u50, u51, u52, u53, u54, u55, u56, u57, u58, u59, u60, u61, u62, u63, u64, u65, u66, u67, u68, u69, u70, u71, u72, u73, u74, u75, u76, u77, u78, u79, u80, u81, u82, u83, u84, u85, u86, u87, u88, u89, u90, u91, u92, u93, u94, u95, u96, u97, u98, u99, u100, u101, u102, u103, u104, u105, u106, u107, u108, u109, u110, u111, u112, u113, u114, u115, u116, u117, u118, u119, u120, u121, u122, u123, u124, u125, u126, u127, u128, u129, u130, u131, u132, u133, u134, u135, u136, u137, u138, u139, u140, u141, u142, u143, u144, u145, u146, u147, u148, u149, u150, u151, u152, u153, u154, u155, u156, u157, u158, u159, u160, u161, u162, u163, u164, u165, u166, u167, u168, u169, u170, u171, u172, u173, u174, u175, u176, u177, u178, u179, u180, u181, u182, .pointer (some ⟨w.heap.size, 1, none⟩), .slice (some a) x.d.ins.length x.ic, .pointer (some (a.add 0)), .string s0, .agg #[.int .i64 (ruleOf s0).sortR, .int .u8 ((ruleOf s0).v.toNat : Int), .string (ruleOf s0).whatR], .pointer (some ⟨w.heap.size, 1, none⟩), .slice (some a) x.d.ins.length x.ic, .pointer (some (a.add 1)), .string s1, .agg #[.int .i64 (ruleOf s1).sortR, .int .u8 ((ruleOf s1).v.toNat : Int), .string (ruleOf s1).whatR], u193, u194, u195, u196, u197, u198, u199, u200, u201, u202, u203, u204, u205, u206, u207], []⟩ X) (X : World) (hHeld : Hid (RrS x w X)) (da : Nat) (HA : Hid (IsV X w da))
  {u7 : Value} {lst : Array Bool} (hl : lst = #[true, true, true, true, true, true, true, true, true, true, true, false, false, false]) : wpAnyH Tryz.prog .any ops21 Q (fun w' => Hid (RrS x w w')) 3 lst ⟨#[u0, .pointer (some ⟨w.heap.size, 0, none⟩), u2, u3, u4, u5, .pointer (some ⟨da, 0, none⟩), u7, u8, u9, u10, u11, u12, u13, u14, u15, u16, u17, u18, u19, u20, u21, u22, u23, u24, u25, u26, u27, u28, u29, u30, u31, u32, u33, u34, u35, u36, u37, u38, u39, u40, u41, u42, u43, u44, u45, u46, u47, u48, u49, u50, u51, u52, u53, u54, u55, u56, u57, u58, u59, u60, u61, u62, u63, u64, u65, u66, u67, u68, u69, u70, u71, u72, u73, u74, u75, u76, u77, u78, u79, u80, u81, u82, u83, u84, u85, u86, u87, u88, u89, u90, u91, u92, u93, u94, u95, u96, u97, u98, u99, u100, u101, u102, u103, u104, u105, u106, u107, u108, u109, u110, u111, u112, u113, u114, u115, u116, u117, u118, u119, u120, u121, u122, u123, u124, u125, u126, u127, u128, u129, u130, u131, u132, u133, u134, u135, u136, u137, u138, u139, u140, u141, u142, u143, u144, u145, u146, u147, u148, u149, u150, u151, u152, u153, u154, u155, u156, u157, u158, u159, u160, u161, u162, u163, u164, u165, u166, u167, u168, u169, u170, u171, u172, u173, u174, u175, u176, u177, u178, u179, u180, u181, u182, .pointer (some ⟨w.heap.size, 1, none⟩), .slice (some a) x.d.ins.length x.ic, .pointer (some (a.add 0)), .string s0, .agg #[.int .i64 (ruleOf s0).sortR, .int .u8 ((ruleOf s0).v.toNat : Int), .string (ruleOf s0).whatR], .pointer (some ⟨w.heap.size, 1, none⟩), .slice (some a) x.d.ins.length x.ic, .pointer (some (a.add 1)), .string s1, .agg #[.int .i64 (ruleOf s1).sortR, .int .u8 ((ruleOf s1).v.toNat : Int), .string (ruleOf s1).whatR], u193, u194, u195, u196, u197, u198, u199, u200, u201, u202, u203, u204, u205, u206, u207], []⟩ X := by
 subst hl
 conv => arg 3; whnf
 refine wpAnyH_ready (rs := [11]) (by kernel_rfl) (by simp) ?_
 refine AllReadyH.cons rfl (fun K hK2 => ?_) AllReadyH.nil
 go_simp
 refine hK2.out _ _ (show Hid (RrS x w _) from hHeld.out.moved (new_below X _)) (fun h1 => ?_)
 clear hK2 K
 try simp only [sD, sE, sF]
 have HB := Lib.hid (show IsV (X.alloc (.cells #[.int .i64 0, .int .u8 0, .string ⟨#[]⟩] 119)) w X.heap.size from ⟨heap_alloc_new X _, lt_of_block hHeld.out.t0⟩)
 have HNE := Lib.hid (show da ≠ X.heap.size from Nat.ne_of_lt (lt_of_block HA.out.heap))
 replace HA := Lib.hid (HA.out.moved (new_below X (.cells #[.int .i64 0, .int .u8 0, .string ⟨#[]⟩] 119)))
 clear hHeld
 have hHeld := h1
 clear h1
 exact nd_abpq hz0 hz1 hP hK _ hHeld _ HA _ HB HNE (by kernel_rfl)
set_option maxHeartbeats 8000000 in
set_option maxRecDepth 100000 in
theorem nd_abq {x : DEl} {w : World} {a : Addr} {s0 s1 : ByteArray} {Q : Exit → Act → World → Prop} {u0 u2 u3 u4 u5 u8 u9 u10 u11 u12 u13 u14 u15 u16 u17 u18 u19 u20 u21 u22 u23 u24 u25 u26 u27 u28 u29 u30 u31 u32 u33 u34 u35 u36 u37 u38 u39 u40 u41 u42 u43 u44 u45 u46 u47 u48 u49 u50 u51 u52 u53 u54 u55 u56 u57 u58 u59 u60 u61 u62 u63 u64 u65 u66 u67 u68 u69 u70 u71 u72 u73 u74 u75 u76 u77 u78 u79 u80 u81 u82 u83 u84 u85 u86 u87 u88 u89 u90 u91 u92 u93 u94 u95 u96 u97 u98 u99 u100 u101 u102 u103 u104 u105 u106 u107 u108 u109 u110 u111 u112 u113 u114 u115 u116 u117 u118 u119 u120 u121 u122 u123 u124 u125 u126 u127 u128 u129 u130 u131 u132 u133 u134 u135 u136 u137 u138 u139 u140 u141 u142 u143 u144 u145 u146 u147 u148 u149 u150 u151 u152 u153 u154 u155 u156 u157 u158 u159 u160 u161 u162 u163 u164 u165 u166 u167 u168 u169 u170 u171 u172 u173 u174 u175 u176 u177 u178 u179 u180 u181 u182 u193 u194 u195 u196 u197 u198 u199 u200 u201 u202 u203 u204 u205 u206 u207 : Value}
  (hz0 : s0.size ≤ 9223372036854775807) (hz1 : s1.size ≤ 9223372036854775807) (hP : ∀ c b d v X, Q (.panic c) (Act.put b d v) X → Q (.panic c) b X) (hK : ∀ (X : World) (da db : Nat), Hid (RrS x w X ∧ X.heap[da]? = some (.cells #[.int .i64 (ruleOf s0).sortR, .int .u8 ((ruleOf s0).v.toNat : Int), .string (ruleOf s0).whatR] 119 (0, 0)) ∧ X.heap[db]? = some (.cells #[.int .i64 (ruleOf s1).sortR, .int .u8 ((ruleOf s1).v.toNat : Int), .string (ruleOf s1).whatR] 119 (0, 0))) → Q .normal ⟨#[u0, .pointer (some ⟨w.heap.size, 0, none⟩), u2, u3, u4, u5, .pointer (some ⟨da, 0, none⟩), .pointer (some ⟨db, 0, none⟩), u8, u9, u10, u11, u12, u13, u14, u15, u16, u17, u18, u19, u20, u21, u22, u23, u24, u25, u26, u27, u28, u29, u30, u31, u32, u33, u34, u35, u36, u37, u38, u39, u40, u41, u42, u43, u44, u45, u46, u47, u48, u49, u50, u51, u52, u53, u54, u55, u56, u57, u58, u59, u60, u61, u62, u63, u64, u65, u66, u67, u68, u69, u70, u71, u72, u73, u74, u75, u76, u77, u78, u79, u80, u81, u82, u83, u84, u85, u86, u87, u88, u89, u90, u91, u92, u93, u94, u95, u96, u97, u98, u99, u100, u101, u102, u103, u104, u105, u106, u107, u108, u109, u110, u111, u112, u113, u114, u115, u116, u117, u118, u119, u120, u121, u122, u123, u124, u125, u126, u127, u128, u129, u130, u131, u132, u133, u134, u135, u136, u137, u138, u139, u140, u141, u142, u143, u144, u145, u146, u147, u148, u149, u150, u151, u152, u153, u154, u155, u156, u157, u158, u159, u160, u161, u162, u163, u164, u165, u166, u167, u168, u169, u170, u171, u172, u173, u174, u175, u176, u177, u178, u179, u180, u181, u182, .pointer (some ⟨w.heap.size, 1, none⟩), .slice (some a) x.d.ins.length x.ic, .pointer (some (a.add 0)), .string s0, .agg #[.int .i64 (ruleOf s0).sortR, .int .u8 ((ruleOf s0).v.toNat : Int), .string (ruleOf s0).whatR], .pointer (some ⟨w.heap.size, 1, none⟩), .slice (some a) x.d.ins.length x.ic, .pointer (some (a.add 1)), .string s1, .agg #[.int .i64 (ruleOf s1).sortR, .int .u8 ((ruleOf s1).v.toNat : Int), .string (ruleOf s1).whatR], u193, u194, u195, u196, u197, u198, u199, u200, u201, u202, u203, u204, u205, u206, u207], []⟩ X) (X : World) (hHeld : Hid (RrS x w X)) (db : Nat) (HB : Hid (IsV X w db))
  {u6 : Value} {lst : Array Bool} (hl : lst = #[true, true, true, true, true, true, true, true, true, true, false, true, false, false]) : wpAnyH Tryz.prog .any ops21 Q (fun w' => Hid (RrS x w w')) 3 lst ⟨#[u0, .pointer (some ⟨w.heap.size, 0, none⟩), u2, u3, u4, u5, u6, .pointer (some ⟨db, 0, none⟩), u8, u9, u10, u11, u12, u13, u14, u15, u16, u17, u18, u19, u20, u21, u22, u23, u24, u25, u26, u27, u28, u29, u30, u31, u32, u33, u34, u35, u36, u37, u38, u39, u40, u41, u42, u43, u44, u45, u46, u47, u48, u49, u50, u51, u52, u53, u54, u55, u56, u57, u58, u59, u60, u61, u62, u63, u64, u65, u66, u67, u68, u69, u70, u71, u72, u73, u74, u75, u76, u77, u78, u79, u80, u81, u82, u83, u84, u85, u86, u87, u88, u89, u90, u91, u92, u93, u94, u95, u96, u97, u98, u99, u100, u101, u102, u103, u104, u105, u106, u107, u108, u109, u110, u111, u112, u113, u114, u115, u116, u117, u118, u119, u120, u121, u122, u123, u124, u125, u126, u127, u128, u129, u130, u131, u132, u133, u134, u135, u136, u137, u138, u139, u140, u141, u142, u143, u144, u145, u146, u147, u148, u149, u150, u151, u152, u153, u154, u155, u156, u157, u158, u159, u160, u161, u162, u163, u164, u165, u166, u167, u168, u169, u170, u171, u172, u173, u174, u175, u176, u177, u178, u179, u180, u181, u182, .pointer (some ⟨w.heap.size, 1, none⟩), .slice (some a) x.d.ins.length x.ic, .pointer (some (a.add 0)), .string s0, .agg #[.int .i64 (ruleOf s0).sortR, .int .u8 ((ruleOf s0).v.toNat : Int), .string (ruleOf s0).whatR], .pointer (some ⟨w.heap.size, 1, none⟩), .slice (some a) x.d.ins.length x.ic, .pointer (some (a.add 1)), .string s1, .agg #[.int .i64 (ruleOf s1).sortR, .int .u8 ((ruleOf s1).v.toNat : Int), .string (ruleOf s1).whatR], u193, u194, u195, u196, u197, u198, u199, u200, u201, u202, u203, u204, u205, u206, u207], []⟩ X := by
 subst hl
 conv => arg 3; whnf
 refine wpAnyH_ready (rs := [10]) (by kernel_rfl) (by simp) ?_
 refine AllReadyH.cons rfl (fun K hK2 => ?_) AllReadyH.nil
 go_simp
 refine hK2.out _ _ (show Hid (RrS x w _) from hHeld.out.moved (new_below X _)) (fun h1 => ?_)
 clear hK2 K
 try simp only [sD, sE, sF]
 have HA := Lib.hid (show IsV (X.alloc (.cells #[.int .i64 0, .int .u8 0, .string ⟨#[]⟩] 119)) w X.heap.size from ⟨heap_alloc_new X _, lt_of_block hHeld.out.t0⟩)
 have HNE := Lib.hid (show X.heap.size ≠ db from Nat.ne_of_gt (lt_of_block HB.out.heap))
 replace HB := Lib.hid (HB.out.moved (new_below X (.cells #[.int .i64 0, .int .u8 0, .string ⟨#[]⟩] 119)))
 clear hHeld
 have hHeld := h1
 clear h1
 exact nd_abpq hz0 hz1 hP hK _ hHeld _ HA _ HB HNE (by kernel_rfl)
set_option maxHeartbeats 8000000 in
set_option maxRecDepth 100000 in
theorem nd_apq {x : DEl} {w : World} {a : Addr} {s0 s1 : ByteArray} {Q : Exit → Act → World → Prop} {u0 u2 u3 u4 u5 u8 u9 u10 u11 u12 u13 u14 u15 u16 u17 u18 u19 u20 u21 u22 u23 u24 u25 u26 u27 u28 u29 u30 u31 u32 u33 u34 u35 u36 u37 u38 u39 u40 u41 u42 u43 u44 u45 u46 u47 u48 u49 u50 u51 u52 u53 u54 u55 u56 u57 u58 u59 u60 u61 u62 u63 u64 u65 u66 u67 u68 u69 u70 u71 u72 u73 u74 u75 u76 u77 u78 u79 u80 u81 u82 u83 u84 u85 u86 u87 u88 u89 u90 u91 u92 u93 u94 u95 u96 u97 u98 u99 u100 u101 u102 u103 u104 u105 u106 u107 u108 u109 u110 u111 u112 u113 u114 u115 u116 u117 u118 u119 u120 u121 u122 u123 u124 u125 u126 u127 u128 u129 u130 u131 u132 u133 u134 u135 u136 u137 u138 u139 u140 u141 u142 u143 u144 u145 u146 u147 u148 u149 u150 u151 u152 u153 u154 u155 u156 u157 u158 u159 u160 u161 u162 u163 u164 u165 u166 u167 u168 u169 u170 u171 u172 u173 u174 u175 u176 u177 u178 u179 u180 u181 u182 u193 u194 u195 u196 u197 u198 u199 u200 u201 u202 u203 u204 u205 u206 u207 : Value}
  (hz0 : s0.size ≤ 9223372036854775807) (hz1 : s1.size ≤ 9223372036854775807) (hP : ∀ c b d v X, Q (.panic c) (Act.put b d v) X → Q (.panic c) b X) (hK : ∀ (X : World) (da db : Nat), Hid (RrS x w X ∧ X.heap[da]? = some (.cells #[.int .i64 (ruleOf s0).sortR, .int .u8 ((ruleOf s0).v.toNat : Int), .string (ruleOf s0).whatR] 119 (0, 0)) ∧ X.heap[db]? = some (.cells #[.int .i64 (ruleOf s1).sortR, .int .u8 ((ruleOf s1).v.toNat : Int), .string (ruleOf s1).whatR] 119 (0, 0))) → Q .normal ⟨#[u0, .pointer (some ⟨w.heap.size, 0, none⟩), u2, u3, u4, u5, .pointer (some ⟨da, 0, none⟩), .pointer (some ⟨db, 0, none⟩), u8, u9, u10, u11, u12, u13, u14, u15, u16, u17, u18, u19, u20, u21, u22, u23, u24, u25, u26, u27, u28, u29, u30, u31, u32, u33, u34, u35, u36, u37, u38, u39, u40, u41, u42, u43, u44, u45, u46, u47, u48, u49, u50, u51, u52, u53, u54, u55, u56, u57, u58, u59, u60, u61, u62, u63, u64, u65, u66, u67, u68, u69, u70, u71, u72, u73, u74, u75, u76, u77, u78, u79, u80, u81, u82, u83, u84, u85, u86, u87, u88, u89, u90, u91, u92, u93, u94, u95, u96, u97, u98, u99, u100, u101, u102, u103, u104, u105, u106, u107, u108, u109, u110, u111, u112, u113, u114, u115, u116, u117, u118, u119, u120, u121, u122, u123, u124, u125, u126, u127, u128, u129, u130, u131, u132, u133, u134, u135, u136, u137, u138, u139, u140, u141, u142, u143, u144, u145, u146, u147, u148, u149, u150, u151, u152, u153, u154, u155, u156, u157, u158, u159, u160, u161, u162, u163, u164, u165, u166, u167, u168, u169, u170, u171, u172, u173, u174, u175, u176, u177, u178, u179, u180, u181, u182, .pointer (some ⟨w.heap.size, 1, none⟩), .slice (some a) x.d.ins.length x.ic, .pointer (some (a.add 0)), .string s0, .agg #[.int .i64 (ruleOf s0).sortR, .int .u8 ((ruleOf s0).v.toNat : Int), .string (ruleOf s0).whatR], .pointer (some ⟨w.heap.size, 1, none⟩), .slice (some a) x.d.ins.length x.ic, .pointer (some (a.add 1)), .string s1, .agg #[.int .i64 (ruleOf s1).sortR, .int .u8 ((ruleOf s1).v.toNat : Int), .string (ruleOf s1).whatR], u193, u194, u195, u196, u197, u198, u199, u200, u201, u202, u203, u204, u205, u206, u207], []⟩ X) (X : World) (hHeld : Hid (RrS x w X)) (da : Nat) (HA : Hid (IsV X w da)) (db : Nat) (HB : Hid (IsV X w db)) (HNE : Hid (da ≠ db))
  {u192 : Value} {lst : Array Bool} (hl : lst = #[true, true, true, true, true, true, true, true, true, false, true, true, false, false]) : wpAnyH Tryz.prog .any ops21 Q (fun w' => Hid (RrS x w w')) 3 lst ⟨#[u0, .pointer (some ⟨w.heap.size, 0, none⟩), u2, u3, u4, u5, .pointer (some ⟨da, 0, none⟩), .pointer (some ⟨db, 0, none⟩), u8, u9, u10, u11, u12, u13, u14, u15, u16, u17, u18, u19, u20, u21, u22, u23, u24, u25, u26, u27, u28, u29, u30, u31, u32, u33, u34, u35, u36, u37, u38, u39, u40, u41, u42, u43, u44, u45, u46, u47, u48, u49, u50, u51, u52, u53, u54, u55, u56, u57, u58, u59, u60, u61, u62, u63, u64, u65, u66, u67, u68, u69, u70, u71, u72, u73, u74, u75, u76, u77, u78, u79, u80, u81, u82, u83, u84, u85, u86, u87, u88, u89, u90, u91, u92, u93, u94, u95, u96, u97, u98, u99, u100, u101, u102, u103, u104, u105, u106, u107, u108, u109, u110, u111, u112, u113, u114, u115, u116, u117, u118, u119, u120, u121, u122, u123, u124, u125, u126, u127, u128, u129, u130, u131, u132, u133, u134, u135, u136, u137, u138, u139, u140, u141, u142, u143, u144, u145, u146, u147, u148, u149, u150, u151, u152, u153, u154, u155, u156, u157, u158, u159, u160, u161, u162, u163, u164, u165, u166, u167, u168, u169, u170, u171, u172, u173, u174, u175, u176, u177, u178, u179, u180, u181, u182, .pointer (some ⟨w.heap.size, 1, none⟩), .slice (some a) x.d.ins.length x.ic, .pointer (some (a.add 0)), .string s0, .agg #[.int .i64 (ruleOf s0).sortR, .int .u8 ((ruleOf s0).v.toNat : Int), .string (ruleOf s0).whatR], .pointer (some ⟨w.heap.size, 1, none⟩), .slice (some a) x.d.ins.length x.ic, .pointer (some (a.add 1)), .string s1, u192, u193, u194, u195, u196, u197, u198, u199, u200, u201, u202, u203, u204, u205, u206, u207], []⟩ X := by
 subst hl
 conv => arg 3; whnf
 refine wpAnyH_ready (rs := [9]) (by kernel_rfl) (by simp) ?_
 refine AllReadyH.cons rfl (fun K hK2 => ?_) AllReadyH.nil
 go_simp
 go_at_call 52
 with_reducible refine (RReadRule_any s1 hz1 X).mono ?_
 rintro e v ⟨rfl, hb⟩
 try dsimp only
 replace HA := Lib.hid (HA.out.moved hb)
 replace HB := Lib.hid (HB.out.moved hb)
 refine hK2.out _ _ (show Hid (RrS x w v) from hHeld.out.moved hb) (fun h1 => ?_)
 clear hK2 K hb hHeld
 have hHeld := h1
 clear h1
 try simp only [sD, sE, sF]
 exact nd_abpq hz0 hz1 hP hK v hHeld _ HA _ HB HNE (by kernel_rfl)
set_option maxHeartbeats 8000000 in
set_option maxRecDepth 100000 in
theorem nd_ab {x : DEl} {w : World} {a : Addr} {s0 s1 : ByteArray} {Q : Exit → Act → World → Prop} {u0 u2 u3 u4 u5 u8 u9 u10 u11 u12 u13 u14 u15 u16 u17 u18 u19 u20 u21 u22 u23 u24 u25 u26 u27 u28 u29 u30 u31 u32 u33 u34 u35 u36 u37 u38 u39 u40 u41 u42 u43 u44 u45 u46 u47 u48 u49 u50 u51 u52 u53 u54 u55 u56 u57 u58 u59 u60 u61 u62 u63 u64 u65 u66 u67 u68 u69 u70 u71 u72 u73 u74 u75 u76 u77 u78 u79 u80 u81 u82 u83 u84 u85 u86 u87 u88 u89 u90 u91 u92 u93 u94 u95 u96 u97 u98 u99 u100 u101 u102 u103 u104 u105 u106 u107 u108 u109 u110 u111 u112 u113 u114 u115 u116 u117 u118 u119 u120 u121 u122 u123 u124 u125 u126 u127 u128 u129 u130 u131 u132 u133 u134 u135 u136 u137 u138 u139 u140 u141 u142 u143 u144 u145 u146 u147 u148 u149 u150 u151 u152 u153 u154 u155 u156 u157 u158 u159 u160 u161 u162 u163 u164 u165 u166 u167 u168 u169 u170 u171 u172 u173 u174 u175 u176 u177 u178 u179 u180 u181 u182 u193 u194 u195 u196 u197 u198 u199 u200 u201 u202 u203 u204 u205 u206 u207 : Value}
  (hz0 : s0.size ≤ 9223372036854775807) (hz1 : s1.size ≤ 9223372036854775807) (hP : ∀ c b d v X, Q (.panic c) (Act.put b d v) X → Q (.panic c) b X) (hK : ∀ (X : World) (da db : Nat), Hid (RrS x w X ∧ X.heap[da]? = some (.cells #[.int .i64 (ruleOf s0).sortR, .int .u8 ((ruleOf s0).v.toNat : Int), .string (ruleOf s0).whatR] 119 (0, 0)) ∧ X.heap[db]? = some (.cells #[.int .i64 (ruleOf s1).sortR, .int .u8 ((ruleOf s1).v.toNat : Int), .string (ruleOf s1).whatR] 119 (0, 0))) → Q .normal ⟨#[u0, .pointer (some ⟨w.heap.size, 0, none⟩), u2, u3, u4, u5, .pointer (some ⟨da, 0, none⟩), .pointer (some ⟨db, 0, none⟩), u8, u9, u10, u11, u12, u13, u14, u15, u16, u17, u18, u19, u20, u21, u22, u23, u24, u25, u26, u27, u28, u29, u30, u31, u32, u33, u34, u35, u36, u37, u38, u39, u40, u41, u42, u43, u44, u45, u46, u47, u48, u49, u50, u51, u52, u53, u54, u55, u56, u57, u58, u59, u60, u61, u62, u63, u64, u65, u66, u67, u68, u69, u70, u71, u72, u73, u74, u75, u76, u77, u78, u79, u80, u81, u82, u83, u84, u85, u86, u87, u88, u89, u90, u91, u92, u93, u94, u95, u96, u97, u98, u99, u100, u101, u102, u103, u104, u105, u106, u107, u108, u109, u110, u111, u112, u113, u114, u115, u116, u117, u118, u119, u120, u121, u122, u123, u124, u125, u126, u127, u128, u129, u130, u131, u132, u133, u134, u135, u136, u137, u138, u139, u140, u141, u142, u143, u144, u145, u146, u147, u148, u149, u150, u151, u152, u153, u154, u155, u156, u157, u158, u159, u160, u161, u162, u163, u164, u165, u166, u167, u168, u169, u170, u171, u172, u173, u174, u175, u176, u177, u178, u179, u180, u181, u182, .pointer (some ⟨w.heap.size, 1, none⟩), .slice (some a) x.d.ins.length x.ic, .pointer (some (a.add 0)), .string s0, .agg #[.int .i64 (ruleOf s0).sortR, .int .u8 ((ruleOf s0).v.toNat : Int), .string (ruleOf s0).whatR], .pointer (some ⟨w.heap.size, 1, none⟩), .slice (some a) x.d.ins.length x.ic, .pointer (some (a.add 1)), .string s1, .agg #[.int .i64 (ruleOf s1).sortR, .int .u8 ((ruleOf s1).v.toNat : Int), .string (ruleOf s1).whatR], u193, u194, u195, u196, u197, u198, u199, u200, u201, u202, u203, u204, u205, u206, u207], []⟩ X) (X : World) (hHeld : Hid (RrS x w X))
  {u6 u7 : Value} {lst : Array Bool} (hl : lst = #[true, true, true, true, true, true, true, true, true, true, false, false, false, false]) : wpAnyH Tryz.prog .any ops21 Q (fun w' => Hid (RrS x w w')) 4 lst ⟨#[u0, .pointer (some ⟨w.heap.size, 0, none⟩), u2, u3, u4, u5, u6, u7, u8, u9, u10, u11, u12, u13, u14, u15, u16, u17, u18, u19, u20, u21, u22, u23, u24, u25, u26, u27, u28, u29, u30, u31, u32, u33, u34, u35, u36, u37, u38, u39, u40, u41, u42, u43, u44, u45, u46, u47, u48, u49, u50, u51, u52, u53, u54, u55, u56, u57, u58, u59, u60, u61, u62, u63, u64, u65, u66, u67, u68, u69, u70, u71, u72, u73, u74, u75, u76, u77, u78, u79, u80, u81, u82, u83, u84, u85, u86, u87, u88, u89, u90, u91, u92, u93, u94, u95, u96, u97, u98, u99, u100, u101, u102, u103, u104, u105, u106, u107, u108, u109, u110, u111, u112, u113, u114, u115, u116, u117, u118, u119, u120, u121, u122, u123, u124, u125, u126, u127, u128, u129, u130, u131, u132, u133, u134, u135, u136, u137, u138, u139, u140, u141, u142, u143, u144, u145, u146, u147, u148, u149, u150, u151, u152, u153, u154, u155, u156, u157, u158, u159, u160, u161, u162, u163, u164, u165, u166, u167, u168, u169, u170, u171, u172, u173, u174, u175, u176, u177, u178, u179, u180, u181, u182, .pointer (some ⟨w.heap.size, 1, none⟩), .slice (some a) x.d.ins.length x.ic, .pointer (some (a.add 0)), .string s0, .agg #[.int .i64 (ruleOf s0).sortR, .int .u8 ((ruleOf s0).v.toNat : Int), .string (ruleOf s0).whatR], .pointer (some ⟨w.heap.size, 1, none⟩), .slice (some a) x.d.ins.length x.ic, .pointer (some (a.add 1)), .string s1, .agg #[.int .i64 (ruleOf s1).sortR, .int .u8 ((ruleOf s1).v.toNat : Int), .string (ruleOf s1).whatR], u193, u194, u195, u196, u197, u198, u199, u200, u201, u202, u203, u204, u205, u206, u207], []⟩ X := by
 subst hl
 conv => arg 3; whnf
 refine wpAnyH_ready (rs := [10, 11]) (by kernel_rfl) (by simp) ?_
 refine AllReadyH.cons rfl (fun K hK2 => ?_) (AllReadyH.cons rfl (fun K hK2 => ?_) AllReadyH.nil)
 ·skip
  go_simp
  refine hK2.out _ _ (show Hid (RrS x w _) from hHeld.out.moved (new_below X _)) (fun h1 => ?_)
  clear hK2 K
  try simp only [sD, sE, sF]
  have HA := Lib.hid (show IsV (X.alloc (.cells #[.int .i64 0, .int .u8 0, .string ⟨#[]⟩] 119)) w X.heap.size from ⟨heap_alloc_new X _, lt_of_block hHeld.out.t0⟩)
  clear hHeld
  have hHeld := h1
  clear h1
  exact nd_abp hz0 hz1 hP hK _ hHeld _ HA (by kernel_rfl)
 ·skip
  go_simp
  refine hK2.out _ _ (show Hid (RrS x w _) from hHeld.out.moved (new_below X _)) (fun h1 => ?_)
  clear hK2 K
  try simp only [sD, sE, sF]
  have HB := Lib.hid (show IsV (X.alloc (.cells #[.int .i64 0, .int .u8 0, .string ⟨#[]⟩] 119)) w X.heap.size from ⟨heap_alloc_new X _, lt_of_block hHeld.out.t0⟩)
  clear hHeld
  have hHeld := h1
  clear h1
  exact nd_abq hz0 hz1 hP hK _ hHeld _ HB (by kernel_rfl)
set_option maxHeartbeats 8000000 in
set_option maxRecDepth 100000 in
theorem nd_ap {x : DEl} {w : World} {a : Addr} {s0 s1 : ByteArray} {Q : Exit → Act → World → Prop} {u0 u2 u3 u4 u5 u8 u9 u10 u11 u12 u13 u14 u15 u16 u17 u18 u19 u20 u21 u22 u23 u24 u25 u26 u27 u28 u29 u30 u31 u32 u33 u34 u35 u36 u37 u38 u39 u40 u41 u42 u43 u44 u45 u46 u47 u48 u49 u50 u51 u52 u53 u54 u55 u56 u57 u58 u59 u60 u61 u62 u63 u64 u65 u66 u67 u68 u69 u70 u71 u72 u73 u74 u75 u76 u77 u78 u79 u80 u81 u82 u83 u84 u85 u86 u87 u88 u89 u90 u91 u92 u93 u94 u95 u96 u97 u98 u99 u100 u101 u102 u103 u104 u105 u106 u107 u108 u109 u110 u111 u112 u113 u114 u115 u116 u117 u118 u119 u120 u121 u122 u123 u124 u125 u126 u127 u128 u129 u130 u131 u132 u133 u134 u135 u136 u137 u138 u139 u140 u141 u142 u143 u144 u145 u146 u147 u148 u149 u150 u151 u152 u153 u154 u155 u156 u157 u158 u159 u160 u161 u162 u163 u164 u165 u166 u167 u168 u169 u170 u171 u172 u173 u174 u175 u176 u177 u178 u179 u180 u181 u182 u193 u194 u195 u196 u197 u198 u199 u200 u201 u202 u203 u204 u205 u206 u207 : Value}
  (hz0 : s0.size ≤ 9223372036854775807) (hz1 : s1.size ≤ 9223372036854775807) (hP : ∀ c b d v X, Q (.panic c) (Act.put b d v) X → Q (.panic c) b X) (hK : ∀ (X : World) (da db : Nat), Hid (RrS x w X ∧ X.heap[da]? = some (.cells #[.int .i64 (ruleOf s0).sortR, .int .u8 ((ruleOf s0).v.toNat : Int), .string (ruleOf s0).whatR] 119 (0, 0)) ∧ X.heap[db]? = some (.cells #[.int .i64 (ruleOf s1).sortR, .int .u8 ((ruleOf s1).v.toNat : Int), .string (ruleOf s1).whatR] 119 (0, 0))) → Q .normal ⟨#[u0, .pointer (some ⟨w.heap.size, 0, none⟩), u2, u3, u4, u5, .pointer (some ⟨da, 0, none⟩), .pointer (some ⟨db, 0, none⟩), u8, u9, u10, u11, u12, u13, u14, u15, u16, u17, u18, u19, u20, u21, u22, u23, u24, u25, u26, u27, u28, u29, u30, u31, u32, u33, u34, u35, u36, u37, u38, u39, u40, u41, u42, u43, u44, u45, u46, u47, u48, u49, u50, u51, u52, u53, u54, u55, u56, u57, u58, u59, u60, u61, u62, u63, u64, u65, u66, u67, u68, u69, u70, u71, u72, u73, u74, u75, u76, u77, u78, u79, u80, u81, u82, u83, u84, u85, u86, u87, u88, u89, u90, u91, u92, u93, u94, u95, u96, u97, u98, u99, u100, u101, u102, u103, u104, u105, u106, u107, u108, u109, u110, u111, u112, u113, u114, u115, u116, u117, u118, u119, u120, u121, u122, u123, u124, u125, u126, u127, u128, u129, u130, u131, u132, u133, u134, u135, u136, u137, u138, u139, u140, u141, u142, u143, u144, u145, u146, u147, u148, u149, u150, u151, u152, u153, u154, u155, u156, u157, u158, u159, u160, u161, u162, u163, u164, u165, u166, u167, u168, u169, u170, u171, u172, u173, u174, u175, u176, u177, u178, u179, u180, u181, u182, .pointer (some ⟨w.heap.size, 1, none⟩), .slice (some a) x.d.ins.length x.ic, .pointer (some (a.add 0)), .string s0, .agg #[.int .i64 (ruleOf s0).sortR, .int .u8 ((ruleOf s0).v.toNat : Int), .string (ruleOf s0).whatR], .pointer (some ⟨w.heap.size, 1, none⟩), .slice (some a) x.d.ins.length x.ic, .pointer (some (a.add 1)), .string s1, .agg #[.int .i64 (ruleOf s1).sortR, .int .u8 ((ruleOf s1).v.toNat : Int), .string (ruleOf s1).whatR], u193, u194, u195, u196, u197, u198, u199, u200, u201, u202, u203, u204, u205, u206, u207], []⟩ X) (X : World) (hHeld : Hid (RrS x w X)) (da : Nat) (HA : Hid (IsV X w da))
  {u7 u192 : Value} {lst : Array Bool} (hl : lst = #[true, true, true, true, true, true, true, true, true, false, true, false, false, false]) : wpAnyH Tryz.prog .any ops21 Q (fun w' => Hid (RrS x w w')) 4 lst ⟨#[u0, .pointer (some ⟨w.heap.size, 0, none⟩), u2, u3, u4, u5, .pointer (some ⟨da, 0, none⟩), u7, u8, u9, u10, u11, u12, u13, u14, u15, u16, u17, u18, u19, u20, u21, u22, u23, u24, u25, u26, u27, u28, u29, u30, u31, u32, u33, u34, u35, u36, u37, u38, u39, u40, u41, u42, u43, u44, u45, u46, u47, u48, u49, u50, u51, u52, u53, u54, u55, u56, u57, u58, u59, u60, u61, u62, u63, u64, u65, u66, u67, u68, u69, u70, u71, u72, u73, u74, u75, u76, u77, u78, u79, u80, u81, u82, u83, u84, u85, u86, u87, u88, u89, u90, u91, u92, u93, u94, u95, u96, u97, u98, u99, u100, u101, u102, u103, u104, u105, u106, u107, u108, u109, u110, u111, u112, u113, u114, u115, u116, u117, u118, u119, u120, u121, u122, u123, u124, u125, u126, u127, u128, u129, u130, u131, u132, u133, u134, u135, u136, u137, u138, u139, u140, u141, u142, u143, u144, u145, u146, u147, u148, u149, u150, u151, u152, u153, u154, u155, u156, u157, u158, u159, u160, u161, u162, u163, u164, u165, u166, u167, u168, u169, u170, u171, u172, u173, u174, u175, u176, u177, u178, u179, u180, u181, u182, .pointer (some ⟨w.heap.size, 1, none⟩), .slice (some a) x.d.ins.length x.ic, .pointer (some (a.add 0)), .string s0, .agg #[.int .i64 (ruleOf s0).sortR, .int .u8 ((ruleOf s0).v.toNat : Int), .string (ruleOf s0).whatR], .pointer (some ⟨w.heap.size, 1, none⟩), .slice (some a) x.d.ins.length x.ic, .pointer (some (a.add 1)), .string s1, u192, u193, u194, u195, u196, u197, u198, u199, u200, u201, u202, u203, u204, u205, u206, u207], []⟩ X := by
 subst hl
 conv => arg 3; whnf
 refine wpAnyH_ready (rs := [9, 11]) (by kernel_rfl) (by simp) ?_
 refine AllReadyH.cons rfl (fun K hK2 => ?_) (AllReadyH.cons rfl (fun K hK2 => ?_) AllReadyH.nil)
 ·skip
  go_simp
  go_at_call 52
  with_reducible refine (RReadRule_any s1 hz1 X).mono ?_
  rintro e v ⟨rfl, hb⟩
  try dsimp only
  replace HA := Lib.hid (HA.out.moved hb)
  refine hK2.out _ _ (show Hid (RrS x w v) from hHeld.out.moved hb) (fun h1 => ?_)
  clear hK2 K hb hHeld
  have hHeld := h1
  clear h1
  try simp only [sD, sE, sF]
  exact nd_abp hz0 hz1 hP hK v hHeld _ HA (by kernel_rfl)
 ·skip
  go_simp
  refine hK2.out _ _ (show Hid (RrS x w _) from hHeld.out.moved (new_below X _)) (fun h1 => ?_)
  clear hK2 K
  try simp only [sD, sE, sF]
  have HB := Lib.hid (show IsV (X.alloc (.cells #[.int .i64 0, .int .u8 0, .string ⟨#[]⟩] 119)) w X.heap.size from ⟨heap_alloc_new X _, lt_of_block hHeld.out.t0⟩)
  have HNE := Lib.hid (show da ≠ X.heap.size from Nat.ne_of_lt (lt_of_block HA.out.heap))
  replace HA := Lib.hid (HA.out.moved (new_below X (.cells #[.int .i64 0, .int .u8 0, .string ⟨#[]⟩] 119)))
  clear hHeld
  have hHeld := h1
  clear h1
  exact nd_apq hz0 hz1 hP hK _ hHeld _ HA _ HB HNE (by kernel_rfl)
set_option maxHeartbeats 8000000 in
set_option maxRecDepth 100000 in
theorem nd_aq {x : DEl} {w : World} {a : Addr} {s0 s1 : ByteArray} {Q : Exit → Act → World → Prop} {u0 u2 u3 u4 u5 u8 u9 u10 u11 u12 u13 u14 u15 u16 u17 u18 u19 u20 u21 u22 u23 u24 u25 u26 u27 u28 u29 u30 u31 u32 u33 u34 u35 u36 u37 u38 u39 u40 u41 u42 u43 u44 u45 u46 u47 u48 u49 u50 u51 u52 u53 u54 u55 u56 u57 u58 u59 u60 u61 u62 u63 u64 u65 u66 u67 u68 u69 u70 u71 u72 u73 u74 u75 u76 u77 u78 u79 u80 u81 u82 u83 u84 u85 u86 u87 u88 u89 u90 u91 u92 u93 u94 u95 u96 u97 u98 u99 u100 u101 u102 u103 u104 u105 u106 u107 u108 u109 u110 u111 u112 u113 u114 u115 u116 u117 u118 u119 u120 u121 u122 u123 u124 u125 u126 u127 u128 u129 u130 u131 u132 u133 u134 u135 u136 u137 u138 u139 u140 u141 u142 u143 u144 u145 u146 u147 u148 u149 u150 u151 u152 u153 u154 u155 u156 u157 u158 u159 u160 u161 u162 u163 u164 u165 u166 u167 u168 u169 u170 u171 u172 u173 u174 u175 u176 u177 u178 u179 u180 u181 u182 u193 u194 u195 u196 u197 u198 u199 u200 u201 u202 u203 u204 u205 u206 u207 : Value}
  (hz0 : s0.size ≤ 9223372036854775807) (hz1 : s1.size ≤ 9223372036854775807) (hP : ∀ c b d v X, Q (.panic c) (Act.put b d v) X → Q (.panic c) b X) (hK : ∀ (X : World) (da db : Nat), Hid (RrS x w X ∧ X.heap[da]? = some (.cells #[.int .i64 (ruleOf s0).sortR, .int .u8 ((ruleOf s0).v.toNat : Int), .string (ruleOf s0).whatR] 119 (0, 0)) ∧ X.heap[db]? = some (.cells #[.int .i64 (ruleOf s1).sortR, .int .u8 ((ruleOf s1).v.toNat : Int), .string (ruleOf s1).whatR] 119 (0, 0))) → Q .normal ⟨#[u0, .pointer (some ⟨w.heap.size, 0, none⟩), u2, u3, u4, u5, .pointer (some ⟨da, 0, none⟩), .pointer (some ⟨db, 0, none⟩), u8, u9, u10, u11, u12, u13, u14, u15, u16, u17, u18, u19, u20, u21, u22, u23, u24, u25, u26, u27, u28, u29, u30, u31, u32, u33, u34, u35, u36, u37, u38, u39, u40, u41, u42, u43, u44, u45, u46, u47, u48, u49, u50, u51, u52, u53, u54, u55, u56, u57, u58, u59, u60, u61, u62, u63, u64, u65, u66, u67, u68, u69, u70, u71, u72, u73, u74, u75, u76, u77, u78, u79, u80, u81, u82, u83, u84, u85, u86, u87, u88, u89, u90, u91, u92, u93, u94, u95, u96, u97, u98, u99, u100, u101, u102, u103, u104, u105, u106, u107, u108, u109, u110, u111, u112, u113, u114, u115, u116, u117, u118, u119, u120, u121, u122, u123, u124, u125, u126, u127, u128, u129, u130, u131, u132, u133, u134, u135, u136, u137, u138, u139, u140, u141, u142, u143, u144, u145, u146, u147, u148, u149, u150, u151, u152, u153, u154, u155, u156, u157, u158, u159, u160, u161, u162, u163, u164, u165, u166, u167, u168, u169, u170, u171, u172, u173, u174, u175, u176, u177, u178, u179, u180, u181, u182, .pointer (some ⟨w.heap.size, 1, none⟩), .slice (some a) x.d.ins.length x.ic, .pointer (some (a.add 0)), .string s0, .agg #[.int .i64 (ruleOf s0).sortR, .int .u8 ((ruleOf s0).v.toNat : Int), .string (ruleOf s0).whatR], .pointer (some ⟨w.heap.size, 1, none⟩), .slice (some a) x.d.ins.length x.ic, .pointer (some (a.add 1)), .string s1, .agg #[.int .i64 (ruleOf s1).sortR, .int .u8 ((ruleOf s1).v.toNat : Int), .string (ruleOf s1).whatR], u193, u194, u195, u196, u197, u198, u199, u200, u201, u202, u203, u204, u205, u206, u207], []⟩ X) (X : World) (hHeld : Hid (RrS x w X)) (db : Nat) (HB : Hid (IsV X w db))
  {u6 u192 : Value} {lst : Array Bool} (hl : lst = #[true, true, true, true, true, true, true, true, true, false, false, true, false, false]) : wpAnyH Tryz.prog .any ops21 Q (fun w' => Hid (RrS x w w')) 4 lst ⟨#[u0, .pointer (some ⟨w.heap.size, 0, none⟩), u2, u3, u4, u5, u6, .pointer (some ⟨db, 0, none⟩), u8, u9, u10, u11, u12, u13, u14, u15, u16, u17, u18, u19, u20, u21, u22, u23, u24, u25, u26, u27, u28, u29, u30, u31, u32, u33, u34, u35, u36, u37, u38, u39, u40, u41, u42, u43, u44, u45, u46, u47, u48, u49, u50, u51, u52, u53, u54, u55, u56, u57, u58, u59, u60, u61, u62, u63, u64, u65, u66, u67, u68, u69, u70, u71, u72, u73, u74, u75, u76, u77, u78, u79, u80, u81, u82, u83, u84, u85, u86, u87, u88, u89, u90, u91, u92, u93, u94, u95, u96, u97, u98, u99, u100, u101, u102, u103, u104, u105, u106, u107, u108, u109, u110, u111, u112, u113, u114, u115, u116, u117, u118, u119, u120, u121, u122, u123, u124, u125, u126, u127, u128, u129, u130, u131, u132, u133, u134, u135, u136, u137, u138, u139, u140, u141, u142, u143, u144, u145, u146, u147, u148, u149, u150, u151, u152, u153, u154, u155, u156, u157, u158, u159, u160, u161, u162, u163, u164, u165, u166, u167, u168, u169, u170, u171, u172, u173, u174, u175, u176, u177, u178, u179, u180, u181, u182, .pointer (some ⟨w.heap.size, 1, none⟩), .slice (some a) x.d.ins.length x.ic, .pointer (some (a.add 0)), .string s0, .agg #[.int .i64 (ruleOf s0).sortR, .int .u8 ((ruleOf s0).v.toNat : Int), .string (ruleOf s0).whatR], .pointer (some ⟨w.heap.size, 1, none⟩), .slice (some a) x.d.ins.length x.ic, .pointer (some (a.add 1)), .string s1, u192, u193, u194, u195, u196, u197, u198, u199, u200, u201, u202, u203, u204, u205, u206, u207], []⟩ X := by
 subst hl
 conv => arg 3; whnf
 refine wpAnyH_ready (rs := [9, 10]) (by kernel_rfl) (by simp) ?_
 refine AllReadyH.cons rfl (fun K hK2 => ?_) (AllReadyH.cons rfl (fun K hK2 => ?_) AllReadyH.nil)
 ·skip
  go_simp
  go_at_call 52
  with_reducible refine (RReadRule_any s1 hz1 X).mono ?_
  rintro e v ⟨rfl, hb⟩
  try dsimp only
  replace HB := Lib.hid (HB.out.moved hb)
  refine hK2.out _ _ (show Hid (RrS x w v) from hHeld.out.moved hb) (fun h1 => ?_)
  clear hK2 K hb hHeld
  have hHeld := h1
  clear h1
  try simp only [sD, sE, sF]
  exact nd_abq hz0 hz1 hP hK v hHeld _ HB (by kernel_rfl)
 ·skip
  go_simp
  refine hK2.out _ _ (show Hid (RrS x w _) from hHeld.out.moved (new_below X _)) (fun h1 => ?_)
  clear hK2 K
  try simp only [sD, sE, sF]
  have HA := Lib.hid (show IsV (X.alloc (.cells #[.int .i64 0, .int .u8 0, .string ⟨#[]⟩] 119)) w X.heap.size from ⟨heap_alloc_new X _, lt_of_block hHeld.out.t0⟩)
  have HNE := Lib.hid (show X.heap.size ≠ db from Nat.ne_of_gt (lt_of_block HB.out.heap))
  replace HB := Lib.hid (HB.out.moved (new_below X (.cells #[.int .i64 0, .int .u8 0, .string ⟨#[]⟩] 119)))
  clear hHeld
  have hHeld := h1
  clear h1
  exact nd_apq hz0 hz1 hP hK _ hHeld _ HA _ HB HNE (by kernel_rfl)
set_option maxHeartbeats 8000000 in
set_option maxRecDepth 100000 in
theorem nd_pq {x : DEl} {w : World} {a : Addr} {s0 s1 : ByteArray} {Q : Exit → Act → World → Prop} {u0 u2 u3 u4 u5 u8 u9 u10 u11 u12 u13 u14 u15 u16 u17 u18 u19 u20 u21 u22 u23 u24 u25 u26 u27 u28 u29 u30 u31 u32 u33 u34 u35 u36 u37 u38 u39 u40 u41 u42 u43 u44 u45 u46 u47 u48 u49 u50 u51 u52 u53 u54 u55 u56 u57 u58 u59 u60 u61 u62 u63 u64 u65 u66 u67 u68 u69 u70 u71 u72 u73 u74 u75 u76 u77 u78 u79 u80 u81 u82 u83 u84 u85 u86 u87 u88 u89 u90 u91 u92 u93 u94 u95 u96 u97 u98 u99 u100 u101 u102 u103 u104 u105 u106 u107 u108 u109 u110 u111 u112 u113 u114 u115 u116 u117 u118 u119 u120 u121 u122 u123 u124 u125 u126 u127 u128 u129 u130 u131 u132 u133 u134 u135 u136 u137 u138 u139 u140 u141 u142 u143 u144 u145 u146 u147 u148 u149 u150 u151 u152 u153 u154 u155 u156 u157 u158 u159 u160 u161 u162 u163 u164 u165 u166 u167 u168 u169 u170 u171 u172 u173 u174 u175 u176 u177 u178 u179 u180 u181 u182 u193 u194 u195 u196 u197 u198 u199 u200 u201 u202 u203 u204 u205 u206 u207 : Value}
  (hz0 : s0.size ≤ 9223372036854775807) (hz1 : s1.size ≤ 9223372036854775807) (hP : ∀ c b d v X, Q (.panic c) (Act.put b d v) X → Q (.panic c) b X) (hK : ∀ (X : World) (da db : Nat), Hid (RrS x w X ∧ X.heap[da]? = some (.cells #[.int .i64 (ruleOf s0).sortR, .int .u8 ((ruleOf s0).v.toNat : Int), .string (ruleOf s0).whatR] 119 (0, 0)) ∧ X.heap[db]? = some (.cells #[.int .i64 (ruleOf s1).sortR, .int .u8 ((ruleOf s1).v.toNat : Int), .string (ruleOf s1).whatR] 119 (0, 0))) → Q .normal ⟨#[u0, .pointer (some ⟨w.heap.size, 0, none⟩), u2, u3, u4, u5, .pointer (some ⟨da, 0, none⟩), .pointer (some ⟨db, 0, none⟩), u8, u9, u10, u11, u12, u13, u14, u15, u16, u17, u18, u19, u20, u21, u22, u23, u24, u25, u26, u27, u28, u29, u30, u31, u32, u33, u34, u35, u36, u37, u38, u39, u40, u41, u42, u43, u44, u45, u46, u47, u48, u49, u50, u51, u52, u53, u54, u55, u56, u57, u58, u59, u60, u61, u62, u63, u64, u65, u66, u67, u68, u69, u70, u71, u72, u73, u74, u75, u76, u77, u78, u79, u80, u81, u82, u83, u84, u85, u86, u87, u88, u89, u90, u91, u92, u93, u94, u95, u96, u97, u98, u99, u100, u101, u102, u103, u104, u105, u106, u107, u108, u109, u110, u111, u112, u113, u114, u115, u116, u117, u118, u119, u120, u121, u122, u123, u124, u125, u126, u127, u128, u129, u130, u131, u132, u133, u134, u135, u136, u137, u138, u139, u140, u141, u142, u143, u144, u145, u146, u147, u148, u149, u150, u151, u152, u153, u154, u155, u156, u157, u158, u159, u160, u161, u162, u163, u164, u165, u166, u167, u168, u169, u170, u171, u172, u173, u174, u175, u176, u177, u178, u179, u180, u181, u182, .pointer (some ⟨w.heap.size, 1, none⟩), .slice (some a) x.d.ins.length x.ic, .pointer (some (a.add 0)), .string s0, .agg #[.int .i64 (ruleOf s0).sortR, .int .u8 ((ruleOf s0).v.toNat : Int), .string (ruleOf s0).whatR], .pointer (some ⟨w.heap.size, 1, none⟩), .slice (some a) x.d.ins.length x.ic, .pointer (some (a.add 1)), .string s1, .agg #[.int .i64 (ruleOf s1).sortR, .int .u8 ((ruleOf s1).v.toNat : Int), .string (ruleOf s1).whatR], u193, u194, u195, u196, u197, u198, u199, u200, u201, u202, u203, u204, u205, u206, u207], []⟩ X) (X : World) (hHeld : Hid (RrS x w X)) (da : Nat) (HA : Hid (IsV X w da)) (db : Nat) (HB : Hid (IsV X w db)) (HNE : Hid (da ≠ db))
  {u187 u192 : Value} {lst : Array Bool} (hl : lst = #[true, true, true, true, false, true, true, true, true, false, true, true, false, false]) : wpAnyH Tryz.prog .any ops21 Q (fun w' => Hid (RrS x w w')) 4 lst ⟨#[u0, .pointer (some ⟨w.heap.size, 0, none⟩), u2, u3, u4, u5, .pointer (some ⟨da, 0, none⟩), .pointer (some ⟨db, 0, none⟩), u8, u9, u10, u11, u12, u13, u14, u15, u16, u17, u18, u19, u20, u21, u22, u23, u24, u25, u26, u27, u28, u29, u30, u31, u32, u33, u34, u35, u36, u37, u38, u39, u40, u41, u42, u43, u44, u45, u46, u47, u48, u49, u50, u51, u52, u53, u54, u55, u56, u57, u58, u59, u60, u61, u62, u63, u64, u65, u66, u67, u68, u69, u70, u71, u72, u73, u74, u75, u76, u77, u78, u79, u80, u81, u82, u83, u84, u85, u86, u87, u88, u89, u90, u91, u92, u93, u94, u95, u96, u97, u98, u99, u100, u101, u102, u103, u104, u105, u106, u107, u108, u109, u110, u111, u112, u113, u114, u115, u116, u117, u118, u119, u120, u121, u122, u123, u124, u125, u126, u127, u128, u129, u130, u131, u132, u133, u134, u135, u136, u137, u138, u139, u140, u141, u142, u143, u144, u145, u146, u147, u148, u149, u150, u151, u152, u153, u154, u155, u156, u157, u158, u159, u160, u161, u162, u163, u164, u165, u166, u167, u168, u169, u170, u171, u172, u173, u174, u175, u176, u177, u178, u179, u180, u181, u182, .pointer (some ⟨w.heap.size, 1, none⟩), .slice (some a) x.d.ins.length x.ic, .pointer (some (a.add 0)), .string s0, u187, .pointer (some ⟨w.heap.size, 1, none⟩), .slice (some a) x.d.ins.length x.ic, .pointer (some (a.add 1)), .string s1, u192, u193, u194, u195, u196, u197, u198, u199, u200, u201, u202, u203, u204, u205, u206, u207], []⟩ X := by
 subst hl
 conv => arg 3; whnf
 refine wpAnyH_ready (rs := [4]) (by kernel_rfl) (by simp) ?_
 refine AllReadyH.cons rfl (fun K hK2 => ?_) AllReadyH.nil
 go_simp
 go_at_call 52
 with_reducible refine (RReadRule_any s0 hz0 X).mono ?_
 rintro e v ⟨rfl, hb⟩
 try dsimp only
 replace HA := Lib.hid (HA.out.moved hb)
 replace HB := Lib.hid (HB.out.moved hb)
 refine hK2.out _ _ (show Hid (RrS x w v) from hHeld.out.moved hb) (fun h1 => ?_)
 clear hK2 K hb hHeld
 have hHeld := h1
 clear h1
 try simp only [sD, sE, sF]
 exact nd_apq hz0 hz1 hP hK v hHeld _ HA _ HB HNE (by kernel_rfl)
set_option maxHeartbeats 8000000 in
set_option maxRecDepth 100000 in
theorem nd_a {x : DEl} {w : World} {a : Addr} {s0 s1 : ByteArray} {Q : Exit → Act → World → Prop} {u0 u2 u3 u4 u5 u8 u9 u10 u11 u12 u13 u14 u15 u16 u17 u18 u19 u20 u21 u22 u23 u24 u25 u26 u27 u28 u29 u30 u31 u32 u33 u34 u35 u36 u37 u38 u39 u40 u41 u42 u43 u44 u45 u46 u47 u48 u49 u50 u51 u52 u53 u54 u55 u56 u57 u58 u59 u60 u61 u62 u63 u64 u65 u66 u67 u68 u69 u70 u71 u72 u73 u74 u75 u76 u77 u78 u79 u80 u81 u82 u83 u84 u85 u86 u87 u88 u89 u90 u91 u92 u93 u94 u95 u96 u97 u98 u99 u100 u101 u102 u103 u104 u105 u106 u107 u108 u109 u110 u111 u112 u113 u114 u115 u116 u117 u118 u119 u120 u121 u122 u123 u124 u125 u126 u127 u128 u129 u130 u131 u132 u133 u134 u135 u136 u137 u138 u139 u140 u141 u142 u143 u144 u145 u146 u147 u148 u149 u150 u151 u152 u153 u154 u155 u156 u157 u158 u159 u160 u161 u162 u163 u164 u165 u166 u167 u168 u169 u170 u171 u172 u173 u174 u175 u176 u177 u178 u179 u180 u181 u182 u193 u194 u195 u196 u197 u198 u199 u200 u201 u202 u203 u204 u205 u206 u207 : Value}
  (hz0 : s0.size ≤ 9223372036854775807) (hz1 : s1.size ≤ 9223372036854775807) (hP : ∀ c b d v X, Q (.panic c) (Act.put b d v) X → Q (.panic c) b X) (hK : ∀ (X : World) (da db : Nat), Hid (RrS x w X ∧ X.heap[da]? = some (.cells #[.int .i64 (ruleOf s0).sortR, .int .u8 ((ruleOf s0).v.toNat : Int), .string (ruleOf s0).whatR] 119 (0, 0)) ∧ X.heap[db]? = some (.cells #[.int .i64 (ruleOf s1).sortR, .int .u8 ((ruleOf s1).v.toNat : Int), .string (ruleOf s1).whatR] 119 (0, 0))) → Q .normal ⟨#[u0, .pointer (some ⟨w.heap.size, 0, none⟩), u2, u3, u4, u5, .pointer (some ⟨da, 0, none⟩), .pointer (some ⟨db, 0, none⟩), u8, u9, u10, u11, u12, u13, u14, u15, u16, u17, u18, u19, u20, u21, u22, u23, u24, u25, u26, u27, u28, u29, u30, u31, u32, u33, u34, u35, u36, u37, u38, u39, u40, u41, u42, u43, u44, u45, u46, u47, u48, u49, u50, u51, u52, u53, u54, u55, u56, u57, u58, u59, u60, u61, u62, u63, u64, u65, u66, u67, u68, u69, u70, u71, u72, u73, u74, u75, u76, u77, u78, u79, u80, u81, u82, u83, u84, u85, u86, u87, u88, u89, u90, u91, u92, u93, u94, u95, u96, u97, u98, u99, u100, u101, u102, u103, u104, u105, u106, u107, u108, u109, u110, u111, u112, u113, u114, u115, u116, u117, u118, u119, u120, u121, u122, u123, u124, u125, u126, u127, u128, u129, u130, u131, u132, u133, u134, u135, u136, u137, u138, u139, u140, u141, u142, u143, u144, u145, u146, u147, u148, u149, u150, u151, u152, u153, u154, u155, u156, u157, u158, u159, u160, u161, u162, u163, u164, u165, u166, u167, u168, u169, u170, u171, u172, u173, u174, u175, u176, u177, u178, u179, u180, u181, u182, .pointer (some ⟨w.heap.size, 1, none⟩), .slice (some a) x.d.ins.length x.ic, .pointer (some (a.add 0)), .string s0, .agg #[.int .i64 (ruleOf s0).sortR, .int .u8 ((ruleOf s0).v.toNat : Int), .string (ruleOf s0).whatR], .pointer (some ⟨w.heap.size, 1, none⟩), .slice (some a) x.d.ins.length x.ic, .pointer (some (a.add 1)), .string s1, .agg #[.int .i64 (ruleOf s1).sortR, .int .u8 ((ruleOf s1).v.toNat : Int), .string (ruleOf s1).whatR], u193, u194, u195, u196, u197, u198, u199, u200, u201, u202, u203, u204, u205, u206, u207], []⟩ X) (X : World) (hHeld : Hid (RrS x w X))
  {u6 u7 u192 : Value} {lst : Array Bool} (hl : lst = #[true, true, true, true, true, true, true, true, true, false, false, false, false, false]) : wpAnyH Tryz.prog .any ops21 Q (fun w' => Hid (RrS x w w')) 5 lst ⟨#[u0, .pointer (some ⟨w.heap.size, 0, none⟩), u2, u3, u4, u5, u6, u7, u8, u9, u10, u11, u12, u13, u14, u15, u16, u17, u18, u19, u20, u21, u22, u23, u24, u25, u26, u27, u28, u29, u30, u31, u32, u33, u34, u35, u36, u37, u38, u39, u40, u41, u42, u43, u44, u45, u46, u47, u48, u49, u50, u51, u52, u53, u54, u55, u56, u57, u58, u59, u60, u61, u62, u63, u64, u65, u66, u67, u68, u69, u70, u71, u72, u73, u74, u75, u76, u77, u78, u79, u80, u81, u82, u83, u84, u85, u86, u87, u88, u89, u90, u91, u92, u93, u94, u95, u96, u97, u98, u99, u100, u101, u102, u103, u104, u105, u106, u107, u108, u109, u110, u111, u112, u113, u114, u115, u116, u117, u118, u119, u120, u121, u122, u123, u124, u125, u126, u127, u128, u129, u130, u131, u132, u133, u134, u135, u136, u137, u138, u139, u140, u141, u142, u143, u144, u145, u146, u147, u148, u149, u150, u151, u152, u153, u154, u155, u156, u157, u158, u159, u160, u161, u162, u163, u164, u165, u166, u167, u168, u169, u170, u171, u172, u173, u174, u175, u176, u177, u178, u179, u180, u181, u182, .pointer (some ⟨w.heap.size, 1, none⟩), .slice (some a) x.d.ins.length x.ic, .pointer (some (a.add 0)), .string s0, .agg #[.int .i64 (ruleOf s0).sortR, .int .u8 ((ruleOf s0).v.toNat : Int), .string (ruleOf s0).whatR], .pointer (some ⟨w.heap.size, 1, none⟩), .slice (some a) x.d.ins.length x.ic, .pointer (some (a.add 1)), .string s1, u192, u193, u194, u195, u196, u197, u198, u199, u200, u201, u202, u203, u204, u205, u206, u207], []⟩ X := by
 subst hl
 conv => arg 3; whnf
 refine wpAnyH_ready (rs := [9, 10, 11]) (by kernel_rfl) (by simp) ?_
 refine AllReadyH.cons rfl (fun K hK2 => ?_) (AllReadyH.cons rfl (fun K hK2 => ?_) (AllReadyH.cons rfl (fun K hK2 => ?_) AllReadyH.nil))
 ·skip
  go_simp
  go_at_call 52
  with_reducible refine (RReadRule_any s1 hz1 X).mono ?_
  rintro e v ⟨rfl, hb⟩
  try dsimp only
  refine hK2.out _ _ (show Hid (RrS x w v) from hHeld.out.moved hb) (fun h1 => ?_)
  clear hK2 K hb hHeld
  have hHeld := h1
  clear h1
  try simp only [sD, sE, sF]
  exact nd_ab hz0 hz1 hP hK v hHeld (by kernel_rfl)
 ·skip
  go_simp
  refine hK2.out _ _ (show Hid (RrS x w _) from hHeld.out.moved (new_below X _)) (fun h1 => ?_)
  clear hK2 K
  try simp only [sD, sE, sF]
  have HA := Lib.hid (show IsV (X.alloc (.cells #[.int .i64 0, .int .u8 0, .string ⟨#[]⟩] 119)) w X.heap.size from ⟨heap_alloc_new X _, lt_of_block hHeld.out.t0⟩)
  clear hHeld
  have hHeld := h1
  clear h1
  exact nd_ap hz0 hz1 hP hK _ hHeld _ HA (by kernel_rfl)
 ·skip
  go_simp
  refine hK2.out _ _ (show Hid (RrS x w _) from hHeld.out.moved (new_below X _)) (fun h1 => ?_)
  clear hK2 K
  try simp only [sD, sE, sF]
  have HB := Lib.hid (show IsV (X.alloc (.cells #[.int .i64 0, .int .u8 0, .string ⟨#[]⟩] 119)) w X.heap.size from ⟨heap_alloc_new X _, lt_of_block hHeld.out.t0⟩)
  clear hHeld
  have hHeld := h1
  clear h1
  exact nd_aq hz0 hz1 hP hK _ hHeld _ HB (by kernel_rfl)
set_option maxHeartbeats 8000000 in
set_option maxRecDepth 100000 in
theorem nd_p {x : DEl} {w : World} {a : Addr} {s0 s1 : ByteArray} {Q : Exit → Act → World → Prop} {u0 u2 u3 u4 u5 u8 u9 u10 u11 u12 u13 u14 u15 u16 u17 u18 u19 u20 u21 u22 u23 u24 u25 u26 u27 u28 u29 u30 u31 u32 u33 u34 u35 u36 u37 u38 u39 u40 u41 u42 u43 u44 u45 u46 u47 u48 u49 u50 u51 u52 u53 u54 u55 u56 u57 u58 u59 u60 u61 u62 u63 u64 u65 u66 u67 u68 u69 u70 u71 u72 u73 u74 u75 u76 u77 u78 u79 u80 u81 u82 u83 u84 u85 u86 u87 u88 u89 u90 u91 u92 u93 u94 u95 u96 u97 u98 u99 u100 u101 u102 u103 u104 u105 u106 u107 u108 u109 u110 u111 u112 u113 u114 u115 u116 u117 u118 u119 u120 u121 u122 u123 u124 u125 u126 u127 u128 u129 u130 u131 u132 u133 u134 u135 u136 u137 u138 u139 u140 u141 u142 u143 u144 u145 u146 u147 u148 u149 u150 u151 u152 u153 u154 u155 u156 u157 u158 u159 u160 u161 u162 u163 u164 u165 u166 u167 u168 u169 u170 u171 u172 u173 u174 u175 u176 u177 u178 u179 u180 u181 u182 u193 u194 u195 u196 u197 u198 u199 u200 u201 u202 u203 u204 u205 u206 u207 : Value}
  (hz0 : s0.size ≤ 9223372036854775807) (hz1 : s1.size ≤ 9223372036854775807) (hP : ∀ c b d v X, Q (.panic c) (Act.put b d v) X → Q (.panic c) b X) (hK : ∀ (X : World) (da db : Nat), Hid (RrS x w X ∧ X.heap[da]? = some (.cells #[.int .i64 (ruleOf s0).sortR, .int .u8 ((ruleOf s0).v.toNat : Int), .string (ruleOf s0).whatR] 119 (0, 0)) ∧ X.heap[db]? = some (.cells #[.int .i64 (ruleOf s1).sortR, .int .u8 ((ruleOf s1).v.toNat : Int), .string (ruleOf s1).whatR] 119 (0, 0))) → Q .normal ⟨#[u0, .pointer (some ⟨w.heap.size, 0, none⟩), u2, u3, u4, u5, .pointer (some ⟨da, 0, none⟩), .pointer (some ⟨db, 0, none⟩), u8, u9, u10, u11, u12, u13, u14, u15, u16, u17, u18, u19, u20, u21, u22, u23, u24, u25, u26, u27, u28, u29, u30, u31, u32, u33, u34, u35, u36, u37, u38, u39, u40, u41, u42, u43, u44, u45, u46, u47, u48, u49, u50, u51, u52, u53, u54, u55, u56, u57, u58, u59, u60, u61, u62, u63, u64, u65, u66, u67, u68, u69, u70, u71, u72, u73, u74, u75, u76, u77, u78, u79, u80, u81, u82, u83, u84, u85, u86, u87, u88, u89, u90, u91, u92, u93, u94, u95, u96, u97, u98, u99, u100, u101, u102, u103, u104, u105, u106, u107, u108, u109, u110, u111, u112, u113, u114, u115, u116, u117, u118, u119, u120, u121, u122, u123, u124, u125, u126, u127, u128, u129, u130, u131, u132, u133, u134, u135, u136, u137, u138, u139, u140, u141, u142, u143, u144, u145, u146, u147, u148, u149, u150, u151, u152, u153, u154, u155, u156, u157, u158, u159, u160, u161, u162, u163, u164, u165, u166, u167, u168, u169, u170, u171, u172, u173, u174, u175, u176, u177, u178, u179, u180, u181, u182, .pointer (some ⟨w.heap.size, 1, none⟩), .slice (some a) x.d.ins.length x.ic, .pointer (some (a.add 0)), .string s0, .agg #[.int .i64 (ruleOf s0).sortR, .int .u8 ((ruleOf s0).v.toNat : Int), .string (ruleOf s0).whatR], .pointer (some ⟨w.heap.size, 1, none⟩), .slice (some a) x.d.ins.length x.ic, .pointer (some (a.add 1)), .string s1, .agg #[.int .i64 (ruleOf s1).sortR, .int .u8 ((ruleOf s1).v.toNat : Int), .string (ruleOf s1).whatR], u193, u194, u195, u196, u197, u198, u199, u200, u201, u202, u203, u204, u205, u206, u207], []⟩ X) (X : World) (hHeld : Hid (RrS x w X)) (da : Nat) (HA : Hid (IsV X w da))
  {u7 u187 u192 : Value} {lst : Array Bool} (hl : lst = #[true, true, true, true, false, true, true, true, true, false, true, false, false, false]) : wpAnyH Tryz.prog .any ops21 Q (fun w' => Hid (RrS x w w')) 5 lst ⟨#[u0, .pointer (some ⟨w.heap.size, 0, none⟩), u2, u3, u4, u5, .pointer (some ⟨da, 0, none⟩), u7, u8, u9, u10, u11, u12, u13, u14, u15, u16, u17, u18, u19, u20, u21, u22, u23, u24, u25, u26, u27, u28, u29, u30, u31, u32, u33, u34, u35, u36, u37, u38, u39, u40, u41, u42, u43, u44, u45, u46, u47, u48, u49, u50, u51, u52, u53, u54, u55, u56, u57, u58, u59, u60, u61, u62, u63, u64, u65, u66, u67, u68, u69, u70, u71, u72, u73, u74, u75, u76, u77, u78, u79, u80, u81, u82, u83, u84, u85, u86, u87, u88, u89, u90, u91, u92, u93, u94, u95, u96, u97, u98, u99, u100, u101, u102, u103, u104, u105, u106, u107, u108, u109, u110, u111, u112, u113, u114, u115, u116, u117, u118, u119, u120, u121, u122, u123, u124, u125, u126, u127, u128, u129, u130, u131, u132, u133, u134, u135, u136, u137, u138, u139, u140, u141, u142, u143, u144, u145, u146, u147, u148, u149, u150, u151, u152, u153, u154, u155, u156, u157, u158, u159, u160, u161, u162, u163, u164, u165, u166, u167, u168, u169, u170, u171, u172, u173, u174, u175, u176, u177, u178, u179, u180, u181, u182, .pointer (some ⟨w.heap.size, 1, none⟩), .slice (some a) x.d.ins.length x.ic, .pointer (some (a.add 0)), .string s0, u187, .pointer (some ⟨w.heap.size, 1, none⟩), .slice (some a) x.d.ins.length x.ic, .pointer (some (a.add 1)), .string s1, u192, u193, u194, u195, u196, u197, u198, u199, u200, u201, u202, u203, u204, u205, u206, u207], []⟩ X := by
 subst hl
 conv => arg 3; whnf
 refine wpAnyH_ready (rs := [4, 11]) (by kernel_rfl) (by simp) ?_
 refine AllReadyH.cons rfl (fun K hK2 => ?_) (AllReadyH.cons rfl (fun K hK2 => ?_) AllReadyH.nil)
 ·skip
  go_simp
  go_at_call 52
  with_reducible refine (RReadRule_any s0 hz0 X).mono ?_
  rintro e v ⟨rfl, hb⟩
  try dsimp only
  replace HA := Lib.hid (HA.out.moved hb)
  refine hK2.out _ _ (show Hid (RrS x w v) from hHeld.out.moved hb) (fun h1 => ?_)
  clear hK2 K hb hHeld
  have hHeld := h1
  clear h1
  try simp only [sD, sE, sF]
  exact nd_ap hz0 hz1 hP hK v hHeld _ HA (by kernel_rfl)
 ·skip
  go_simp
  refine hK2.out _ _ (show Hid (RrS x w _) from hHeld.out.moved (new_below X _)) (fun h1 => ?_)
  clear hK2 K
  try simp only [sD, sE, sF]
  have HB := Lib.hid (show IsV (X.alloc (.cells #[.int .i64 0, .int .u8 0, .string ⟨#[]⟩] 119)) w X.heap.size from ⟨heap_alloc_new X _, lt_of_block hHeld.out.t0⟩)
  have HNE := Lib.hid (show da ≠ X.heap.size from Nat.ne_of_lt (lt_of_block HA.out.heap))
  replace HA := Lib.hid (HA.out.moved (new_below X (.cells #[.int .i64 0, .int .u8 0, .string ⟨#[]⟩] 119)))
  clear hHeld
  have hHeld := h1
  clear h1
  exact nd_pq hz0 hz1 hP hK _ hHeld _ HA _ HB HNE (by kernel_rfl)
set_option maxHeartbeats 8000000 in
set_option maxRecDepth 100000 in
theorem nd_q {x : DEl} {w : World} {a : Addr} {s0 s1 : ByteArray} {Q : Exit → Act → World → Prop} {u0 u2 u3 u4 u5 u8 u9 u10 u11 u12 u13 u14 u15 u16 u17 u18 u19 u20 u21 u22 u23 u24 u25 u26 u27 u28 u29 u30 u31 u32 u33 u34 u35 u36 u37 u38 u39 u40 u41 u42 u43 u44 u45 u46 u47 u48 u49 u50 u51 u52 u53 u54 u55 u56 u57 u58 u59 u60 u61 u62 u63 u64 u65 u66 u67 u68 u69 u70 u71 u72 u73 u74 u75 u76 u77 u78 u79 u80 u81 u82 u83 u84 u85 u86 u87 u88 u89 u90 u91 u92 u93 u94 u95 u96 u97 u98 u99 u100 u101 u102 u103 u104 u105 u106 u107 u108 u109 u110 u111 u112 u113 u114 u115 u116 u117 u118 u119 u120 u121 u122 u123 u124 u125 u126 u127 u128 u129 u130 u131 u132 u133 u134 u135 u136 u137 u138 u139 u140 u141 u142 u143 u144 u145 u146 u147 u148 u149 u150 u151 u152 u153 u154 u155 u156 u157 u158 u159 u160 u161 u162 u163 u164 u165 u166 u167 u168 u169 u170 u171 u172 u173 u174 u175 u176 u177 u178 u179 u180 u181 u182 u193 u194 u195 u196 u197 u198 u199 u200 u201 u202 u203 u204 u205 u206 u207 : Value}
  (hz0 : s0.size ≤ 9223372036854775807) (hz1 : s1.size ≤ 9223372036854775807) (hP : ∀ c b d v X, Q (.panic c) (Act.put b d v) X → Q (.panic c) b X) (hK : ∀ (X : World) (da db : Nat), Hid (RrS x w X ∧ X.heap[da]? = some (.cells #[.int .i64 (ruleOf s0).sortR, .int .u8 ((ruleOf s0).v.toNat : Int), .string (ruleOf s0).whatR] 119 (0, 0)) ∧ X.heap[db]? = some (.cells #[.int .i64 (ruleOf s1).sortR, .int .u8 ((ruleOf s1).v.toNat : Int), .string (ruleOf s1).whatR] 119 (0, 0))) → Q .normal ⟨#[u0, .pointer (some ⟨w.heap.size, 0, none⟩), u2, u3, u4, u5, .pointer (some ⟨da, 0, none⟩), .pointer (some ⟨db, 0, none⟩), u8, u9, u10, u11, u12, u13, u14, u15, u16, u17, u18, u19, u20, u21, u22, u23, u24, u25, u26, u27, u28, u29, u30, u31, u32, u33, u34, u35, u36, u37, u38, u39, u40, u41, u42, u43, u44, u45, u46, u47, u48, u49, u50, u51, u52, u53, u54, u55, u56, u57, u58, u59, u60, u61, u62, u63, u64, u65, u66, u67, u68, u69, u70, u71, u72, u73, u74, u75, u76, u77, u78, u79, u80, u81, u82, u83, u84, u85, u86, u87, u88, u89, u90, u91, u92, u93, u94, u95, u96, u97, u98, u99, u100, u101, u102, u103, u104, u105, u106, u107, u108, u109, u110, u111, u112, u113, u114, u115, u116, u117, u118, u119, u120, u121, u122, u123, u124, u125, u126, u127, u128, u129, u130, u131, u132, u133, u134, u135, u136, u137, u138, u139, u140, u141, u142, u143, u144, u145, u146, u147, u148, u149, u150, u151, u152, u153, u154, u155, u156, u157, u158, u159, u160, u161, u162, u163, u164, u165, u166, u167, u168, u169, u170, u171, u172, u173, u174, u175, u176, u177, u178, u179, u180, u181, u182, .pointer (some ⟨w.heap.size, 1, none⟩), .slice (some a) x.d.ins.length x.ic, .pointer (some (a.add 0)), .string s0, .agg #[.int .i64 (ruleOf s0).sortR, .int .u8 ((ruleOf s0).v.toNat : Int), .string (ruleOf s0).whatR], .pointer (some ⟨w.heap.size, 1, none⟩), .slice (some a) x.d.ins.length x.ic, .pointer (some (a.add 1)), .string s1, .agg #[.int .i64 (ruleOf s1).sortR, .int .u8 ((ruleOf s1).v.toNat : Int), .string (ruleOf s1).whatR], u193, u194, u195, u196, u197, u198, u199, u200, u201, u202, u203, u204, u205, u206, u207], []⟩ X) (X : World) (hHeld : Hid (RrS x w X)) (db : Nat) (HB : Hid (IsV X w db))
  {u6 u187 u192 : Value} {lst : Array Bool} (hl : lst = #[true, true, true, true, false, true, true, true, true, false, false, true, false, false]) : wpAnyH Tryz.prog .any ops21 Q (fun w' => Hid (RrS x w w')) 5 lst ⟨#[u0, .pointer (some ⟨w.heap.size, 0, none⟩), u2, u3, u4, u5, u6, .pointer (some ⟨db, 0, none⟩), u8, u9, u10, u11, u12, u13, u14, u15, u16, u17, u18, u19, u20, u21, u22, u23, u24, u25, u26, u27, u28, u29, u30, u31, u32, u33, u34, u35, u36, u37, u38, u39, u40, u41, u42, u43, u44, u45, u46, u47, u48, u49, u50, u51, u52, u53, u54, u55, u56, u57, u58, u59, u60, u61, u62, u63, u64, u65, u66, u67, u68, u69, u70, u71, u72, u73, u74, u75, u76, u77, u78, u79, u80, u81, u82, u83, u84, u85, u86, u87, u88, u89, u90, u91, u92, u93, u94, u95, u96, u97, u98, u99, u100, u101, u102, u103, u104, u105, u106, u107, u108, u109, u110, u111, u112, u113, u114, u115, u116, u117, u118, u119, u120, u121, u122, u123, u124, u125, u126, u127, u128, u129, u130, u131, u132, u133, u134, u135, u136, u137, u138, u139, u140, u141, u142, u143, u144, u145, u146, u147, u148, u149, u150, u151, u152, u153, u154, u155, u156, u157, u158, u159, u160, u161, u162, u163, u164, u165, u166, u167, u168, u169, u170, u171, u172, u173, u174, u175, u176, u177, u178, u179, u180, u181, u182, .pointer (some ⟨w.heap.size, 1, none⟩), .slice (some a) x.d.ins.length x.ic, .pointer (some (a.add 0)), .string s0, u187, .pointer (some ⟨w.heap.size, 1, none⟩), .slice (some a) x.d.ins.length x.ic, .pointer (some (a.add 1)), .string s1, u192, u193, u194, u195, u196, u197, u198, u199, u200, u201, u202, u203, u204, u205, u206, u207], []⟩ X := by
 subst hl
 conv => arg 3; whnf
 refine wpAnyH_ready (rs := [4, 10]) (by kernel_rfl) (by simp) ?_
 refine AllReadyH.cons rfl (fun K hK2 => ?_) (AllReadyH.cons rfl (fun K hK2 => ?_) AllReadyH.nil)
 ·skip
  go_simp
  go_at_call 52
  with_reducible refine (RReadRule_any s0 hz0 X).mono ?_
  rintro e v ⟨rfl, hb⟩
  try dsimp only
  replace HB := Lib.hid (HB.out.moved hb)
  refine hK2.out _ _ (show Hid (RrS x w v) from hHeld.out.moved hb) (fun h1 => ?_)
  clear hK2 K hb hHeld
  have hHeld := h1
  clear h1
  try simp only [sD, sE, sF]
  exact nd_aq hz0 hz1 hP hK v hHeld _ HB (by kernel_rfl)
 ·skip
  go_simp
  refine hK2.out _ _ (show Hid (RrS x w _) from hHeld.out.moved (new_below X _)) (fun h1 => ?_)
  clear hK2 K
  try simp only [sD, sE, sF]
  have HA := Lib.hid (show IsV (X.alloc (.cells #[.int .i64 0, .int .u8 0, .string ⟨#[]⟩] 119)) w X.heap.size from ⟨heap_alloc_new X _, lt_of_block hHeld.out.t0⟩)
  have HNE := Lib.hid (show X.heap.size ≠ db from Nat.ne_of_gt (lt_of_block HB.out.heap))
  replace HB := Lib.hid (HB.out.moved (new_below X (.cells #[.int .i64 0, .int .u8 0, .string ⟨#[]⟩] 119)))
  clear hHeld
  have hHeld := h1
  clear h1
  exact nd_pq hz0 hz1 hP hK _ hHeld _ HA _ HB HNE (by kernel_rfl)
set_option maxHeartbeats 8000000 in
set_option maxRecDepth 100000 in
theorem nd_ {x : DEl} {w : World} {a : Addr} {s0 s1 : ByteArray} {Q : Exit → Act → World → Prop} {u0 u2 u3 u4 u5 u8 u9 u10 u11 u12 u13 u14 u15 u16 u17 u18 u19 u20 u21 u22 u23 u24 u25 u26 u27 u28 u29 u30 u31 u32 u33 u34 u35 u36 u37 u38 u39 u40 u41 u42 u43 u44 u45 u46 u47 u48 u49 u50 u51 u52 u53 u54 u55 u56 u57 u58 u59 u60 u61 u62 u63 u64 u65 u66 u67 u68 u69 u70 u71 u72 u73 u74 u75 u76 u77 u78 u79 u80 u81 u82 u83 u84 u85 u86 u87 u88 u89 u90 u91 u92 u93 u94 u95 u96 u97 u98 u99 u100 u101 u102 u103 u104 u105 u106 u107 u108 u109 u110 u111 u112 u113 u114 u115 u116 u117 u118 u119 u120 u121 u122 u123 u124 u125 u126 u127 u128 u129 u130 u131 u132 u133 u134 u135 u136 u137 u138 u139 u140 u141 u142 u143 u144 u145 u146 u147 u148 u149 u150 u151 u152 u153 u154 u155 u156 u157 u158 u159 u160 u161 u162 u163 u164 u165 u166 u167 u168 u169 u170 u171 u172 u173 u174 u175 u176 u177 u178 u179 u180 u181 u182 u193 u194 u195 u196 u197 u198 u199 u200 u201 u202 u203 u204 u205 u206 u207 : Value}
  (hz0 : s0.size ≤ 9223372036854775807) (hz1 : s1.size ≤ 9223372036854775807) (hP : ∀ c b d v X, Q (.panic c) (Act.put b d v) X → Q (.panic c) b X) (hK : ∀ (X : World) (da db : Nat), Hid (RrS x w X ∧ X.heap[da]? = some (.cells #[.int .i64 (ruleOf s0).sortR, .int .u8 ((ruleOf s0).v.toNat : Int), .string (ruleOf s0).whatR] 119 (0, 0)) ∧ X.heap[db]? = some (.cells #[.int .i64 (ruleOf s1).sortR, .int .u8 ((ruleOf s1).v.toNat : Int), .string (ruleOf s1).whatR] 119 (0, 0))) → Q .normal ⟨#[u0, .pointer (some ⟨w.heap.size, 0, none⟩), u2, u3, u4, u5, .pointer (some ⟨da, 0, none⟩), .pointer (some ⟨db, 0, none⟩), u8, u9, u10, u11, u12, u13, u14, u15, u16, u17, u18, u19, u20, u21, u22, u23, u24, u25, u26, u27, u28, u29, u30, u31, u32, u33, u34, u35, u36, u37, u38, u39, u40, u41, u42, u43, u44, u45, u46, u47, u48, u49, u50, u51, u52, u53, u54, u55, u56, u57, u58, u59, u60, u61, u62, u63, u64, u65, u66, u67, u68, u69, u70, u71, u72, u73, u74, u75, u76, u77, u78, u79, u80, u81, u82, u83, u84, u85, u86, u87, u88, u89, u90, u91, u92, u93, u94, u95, u96, u97, u98, u99, u100, u101, u102, u103, u104, u105, u106, u107, u108, u109, u110, u111, u112, u113, u114, u115, u116, u117, u118, u119, u120, u121, u122, u123, u124, u125, u126, u127, u128, u129, u130, u131, u132, u133, u134, u135, u136, u137, u138, u139, u140, u141, u142, u143, u144, u145, u146, u147, u148, u149, u150, u151, u152, u153, u154, u155, u156, u157, u158, u159, u160, u161, u162, u163, u164, u165, u166, u167, u168, u169, u170, u171, u172, u173, u174, u175, u176, u177, u178, u179, u180, u181, u182, .pointer (some ⟨w.heap.size, 1, none⟩), .slice (some a) x.d.ins.length x.ic, .pointer (some (a.add 0)), .string s0, .agg #[.int .i64 (ruleOf s0).sortR, .int .u8 ((ruleOf s0).v.toNat : Int), .string (ruleOf s0).whatR], .pointer (some ⟨w.heap.size, 1, none⟩), .slice (some a) x.d.ins.length x.ic, .pointer (some (a.add 1)), .string s1, .agg #[.int .i64 (ruleOf s1).sortR, .int .u8 ((ruleOf s1).v.toNat : Int), .string (ruleOf s1).whatR], u193, u194, u195, u196, u197, u198, u199, u200, u201, u202, u203, u204, u205, u206, u207], []⟩ X) (X : World) (hHeld : Hid (RrS x w X))
  {u6 u7 u187 u192 : Value} {lst : Array Bool} (hl : lst = #[true, true, true, true, false, true, true, true, true, false, false, false, false, false]) : wpAnyH Tryz.prog .any ops21 Q (fun w' => Hid (RrS x w w')) 6 lst ⟨#[u0, .pointer (some ⟨w.heap.size, 0, none⟩), u2, u3, u4, u5, u6, u7, u8, u9, u10, u11, u12, u13, u14, u15, u16, u17, u18, u19, u20, u21, u22, u23, u24, u25, u26, u27, u28, u29, u30, u31, u32, u33, u34, u35, u36, u37, u38, u39, u40, u41, u42, u43, u44, u45, u46, u47, u48, u49, u50, u51, u52, u53, u54, u55, u56, u57, u58, u59, u60, u61, u62, u63, u64, u65, u66, u67, u68, u69, u70, u71, u72, u73, u74, u75, u76, u77, u78, u79, u80, u81, u82, u83, u84, u85, u86, u87, u88, u89, u90, u91, u92, u93, u94, u95, u96, u97, u98, u99, u100, u101, u102, u103, u104, u105, u106, u107, u108, u109, u110, u111, u112, u113, u114, u115, u116, u117, u118, u119, u120, u121, u122, u123, u124, u125, u126, u127, u128, u129, u130, u131, u132, u133, u134, u135, u136, u137, u138, u139, u140, u141, u142, u143, u144, u145, u146, u147, u148, u149, u150, u151, u152, u153, u154, u155, u156, u157, u158, u159, u160, u161, u162, u163, u164, u165, u166, u167, u168, u169, u170, u171, u172, u173, u174, u175, u176, u177, u178, u179, u180, u181, u182, .pointer (some ⟨w.heap.size, 1, none⟩), .slice (some a) x.d.ins.length x.ic, .pointer (some (a.add 0)), .string s0, u187, .pointer (some ⟨w.heap.size, 1, none⟩), .slice (some a) x.d.ins.length x.ic, .pointer (some (a.add 1)), .string s1, u192, u193, u194, u195, u196, u197, u198, u199, u200, u201, u202, u203, u204, u205, u206, u207], []⟩ X := by
 subst hl
 conv => arg 3; whnf
 refine wpAnyH_ready (rs := [4, 10, 11]) (by kernel_rfl) (by simp) ?_
 refine AllReadyH.cons rfl (fun K hK2 => ?_) (AllReadyH.cons rfl (fun K hK2 => ?_) (AllReadyH.cons rfl (fun K hK2 => ?_) AllReadyH.nil))
 ·skip
  go_simp
  go_at_call 52
  with_reducible refine (RReadRule_any s0 hz0 X).mono ?_
  rintro e v ⟨rfl, hb⟩
  try dsimp only
  refine hK2.out _ _ (show Hid (RrS x w v) from hHeld.out.moved hb) (fun h1 => ?_)
  clear hK2 K hb hHeld
  have hHeld := h1
  clear h1
  try simp only [sD, sE, sF]
  exact nd_a hz0 hz1 hP hK v hHeld (by kernel_rfl)
 ·skip
  go_simp
  refine hK2.out _ _ (show Hid (RrS x w _) from hHeld.out.moved (new_below X _)) (fun h1 => ?_)
  clear hK2 K
  try simp only [sD, sE, sF]
  have HA := Lib.hid (show IsV (X.alloc (.cells #[.int .i64 0, .int .u8 0, .string ⟨#[]⟩] 119)) w X.heap.size from ⟨heap_alloc_new X _, lt_of_block hHeld.out.t0⟩)
  clear hHeld
  have hHeld := h1
  clear h1
  exact nd_p hz0 hz1 hP hK _ hHeld _ HA (by kernel_rfl)
 ·skip
  go_simp
  refine hK2.out _ _ (show Hid (RrS x w _) from hHeld.out.moved (new_below X _)) (fun h1 => ?_)
  clear hK2 K
  try simp only [sD, sE, sF]
  have HB := Lib.hid (show IsV (X.alloc (.cells #[.int .i64 0, .int .u8 0, .string ⟨#[]⟩] 119)) w X.heap.size from ⟨heap_alloc_new X _, lt_of_block hHeld.out.t0⟩)
  clear hHeld
  have hHeld := h1
  clear h1
  exact nd_q hz0 hz1 hP hK _ hHeld _ HB (by kernel_rfl)
set_option maxHeartbeats 8000000 in
set_option maxRecDepth 100000 in
theorem region21_any {x : DEl} {w : World} {a : Addr} {s0 s1 : ByteArray} {Q : Exit → Act → World → Prop} {u0 u2 u3 u4 u5 u8 u9 u10 u11 u12 u13 u14 u15 u16 u17 u18 u19 u20 u21 u22 u23 u24 u25 u26 u27 u28 u29 u30 u31 u32 u33 u34 u35 u36 u37 u38 u39 u40 u41 u42 u43 u44 u45 u46 u47 u48 u49 u50 u51 u52 u53 u54 u55 u56 u57 u58 u59 u60 u61 u62 u63 u64 u65 u66 u67 u68 u69 u70 u71 u72 u73 u74 u75 u76 u77 u78 u79 u80 u81 u82 u83 u84 u85 u86 u87 u88 u89 u90 u91 u92 u93 u94 u95 u96 u97 u98 u99 u100 u101 u102 u103 u104 u105 u106 u107 u108 u109 u110 u111 u112 u113 u114 u115 u116 u117 u118 u119 u120 u121 u122 u123 u124 u125 u126 u127 u128 u129 u130 u131 u132 u133 u134 u135 u136 u137 u138 u139 u140 u141 u142 u143 u144 u145 u146 u147 u148 u149 u150 u151 u152 u153 u154 u155 u156 u157 u158 u159 u160 u161 u162 u163 u164 u165 u166 u167 u168 u169 u170 u171 u172 u173 u174 u175 u176 u177 u178 u179 u180 u181 u182 u193 u194 u195 u196 u197 u198 u199 u200 u201 u202 u203 u204 u205 u206 u207 : Value}
  (hz0 : s0.size ≤ 9223372036854775807) (hz1 : s1.size ≤ 9223372036854775807) (hP : ∀ c b d v X, Q (.panic c) (Act.put b d v) X → Q (.panic c) b X) (hK : ∀ (X : World) (da db : Nat), Hid (RrS x w X ∧ X.heap[da]? = some (.cells #[.int .i64 (ruleOf s0).sortR, .int .u8 ((ruleOf s0).v.toNat : Int), .string (ruleOf s0).whatR] 119 (0, 0)) ∧ X.heap[db]? = some (.cells #[.int .i64 (ruleOf s1).sortR, .int .u8 ((ruleOf s1).v.toNat : Int), .string (ruleOf s1).whatR] 119 (0, 0))) → Q .normal ⟨#[u0, .pointer (some ⟨w.heap.size, 0, none⟩), u2, u3, u4, u5, .pointer (some ⟨da, 0, none⟩), .pointer (some ⟨db, 0, none⟩), u8, u9, u10, u11, u12, u13, u14, u15, u16, u17, u18, u19, u20, u21, u22, u23, u24, u25, u26, u27, u28, u29, u30, u31, u32, u33, u34, u35, u36, u37, u38, u39, u40, u41, u42, u43, u44, u45, u46, u47, u48, u49, u50, u51, u52, u53, u54, u55, u56, u57, u58, u59, u60, u61, u62, u63, u64, u65, u66, u67, u68, u69, u70, u71, u72, u73, u74, u75, u76, u77, u78, u79, u80, u81, u82, u83, u84, u85, u86, u87, u88, u89, u90, u91, u92, u93, u94, u95, u96, u97, u98, u99, u100, u101, u102, u103, u104, u105, u106, u107, u108, u109, u110, u111, u112, u113, u114, u115, u116, u117, u118, u119, u120, u121, u122, u123, u124, u125, u126, u127, u128, u129, u130, u131, u132, u133, u134, u135, u136, u137, u138, u139, u140, u141, u142, u143, u144, u145, u146, u147, u148, u149, u150, u151, u152, u153, u154, u155, u156, u157, u158, u159, u160, u161, u162, u163, u164, u165, u166, u167, u168, u169, u170, u171, u172, u173, u174, u175, u176, u177, u178, u179, u180, u181, u182, .pointer (some ⟨w.heap.size, 1, none⟩), .slice (some a) x.d.ins.length x.ic, .pointer (some (a.add 0)), .string s0, .agg #[.int .i64 (ruleOf s0).sortR, .int .u8 ((ruleOf s0).v.toNat : Int), .string (ruleOf s0).whatR], .pointer (some ⟨w.heap.size, 1, none⟩), .slice (some a) x.d.ins.length x.ic, .pointer (some (a.add 1)), .string s1, .agg #[.int .i64 (ruleOf s1).sortR, .int .u8 ((ruleOf s1).v.toNat : Int), .string (ruleOf s1).whatR], u193, u194, u195, u196, u197, u198, u199, u200, u201, u202, u203, u204, u205, u206, u207], []⟩ X) {u6 u7 u183 u184 u185 u186 u187 u188 u189 u190 u191 u192 : Value}
  (hne : ¬ x.d.ins = []) (hl1 : (1 : Int) < (x.d.ins.length : Int)) (hya : x.io = some a) (hc0 : ∀ X, Hid (RrS x w X) → X.cell? (a.add 0) = some (.string s0)) (hc1 : ∀ X, Hid (RrS x w X) → X.cell? (a.add 1) = some (.string s1))
  (W : World) (hHeld : Hid (RrS x w W)) : Code.wp Tryz.prog reg21 Q ⟨#[u0, .pointer (some ⟨w.heap.size, 0, none⟩), u2, u3, u4, u5, u6, u7, u8, u9, u10, u11, u12, u13, u14, u15, u16, u17, u18, u19, u20, u21, u22, u23, u24, u25, u26, u27, u28, u29, u30, u31, u32, u33, u34, u35, u36, u37, u38, u39, u40, u41, u42, u43, u44, u45, u46, u47, u48, u49, u50, u51, u52, u53, u54, u55, u56, u57, u58, u59, u60, u61, u62, u63, u64, u65, u66, u67, u68, u69, u70, u71, u72, u73, u74, u75, u76, u77, u78, u79, u80, u81, u82, u83, u84, u85, u86, u87, u88, u89, u90, u91, u92, u93, u94, u95, u96, u97, u98, u99, u100, u101, u102, u103, u104, u105, u106, u107, u108, u109, u110, u111, u112, u113, u114, u115, u116, u117, u118, u119, u120, u121, u122, u123, u124, u125, u126, u127, u128, u129, u130, u131, u132, u133, u134, u135, u136, u137, u138, u139, u140, u141, u142, u143, u144, u145, u146, u147, u148, u149, u150, u151, u152, u153, u154, u155, u156, u157, u158, u159, u160, u161, u162, u163, u164, u165, u166, u167, u168, u169, u170, u171, u172, u173, u174, u175, u176, u177, u178, u179, u180, u181, u182, u183, u184, u185, u186, u187, u188, u189, u190, u191, u192, u193, u194, u195, u196, u197, u198, u199, u200, u201, u202, u203, u204, u205, u206, u207], []⟩ W := by
 conv => arg 2; whnf
 refine wp_region_held_drew (S := fun w' => Hid (RrS x w w')) (by kernel_rfl) ⟨hHeld.out.t0, hHeld.out.below.drew⟩ (fun h1 => ?_)
 clear hHeld
 have hHeld := h1
 clear h1
 generalize W.drew = V0 at hHeld ⊢
 have HK1 := Lib.hid (fun (X : World) (h : Hid (RrS x w X)) => (show X.cell? ⟨w.heap.size, 1, none⟩ = some (.slice (some a) x.d.ins.length x.ic) by have := (dcells7 h.out.t0).2.1; rw [hya] at this; exact this))
 refine wpAnyH_take (i := 0) (v := .pointer (some ⟨w.heap.size, 1, none⟩)) rfl (by kernel_rfl) (by kernel_rfl) (by kernel_rfl) (fun c b X h => hP c b _ _ X h) (Or.inl ⟨by rfl, ?_⟩) hHeld ?_
 ·intro w9 hSw
  go_simp
 simp only [Act.put, sA, sC, sD, sE, sF]
 refine wpAnyH_take (i := 1) (v := .slice (some a) x.d.ins.length x.ic) rfl (by kernel_rfl) (by kernel_rfl) (by kernel_rfl) (fun c b X h => hP c b _ _ X h) (Or.inl ⟨by rfl, ?_⟩) hHeld ?_
 ·intro w9 hSw
  have hcc := HK1.out w9 hSw
  go_simp
 simp only [Act.put, sA, sB, sC, sD, sE, sF]
 refine wpAnyH_take (i := 2) (v := .pointer (some (a.add 0))) rfl (by kernel_rfl) (by kernel_rfl) (by kernel_rfl) (fun c b X h => hP c b _ _ X h) (Or.inl ⟨by rfl, ?_⟩) hHeld ?_
 ·intro w9 hSw
  have hne2 := hne
  go_simp
 simp only [Act.put, sA, sB, sC, sD, sE, sF]
 refine wpAnyH_take (i := 3) (v := .string s0) rfl (by kernel_rfl) (by kernel_rfl) (by kernel_rfl) (fun c b X h => hP c b _ _ X h) (Or.inl ⟨by rfl, ?_⟩) hHeld ?_
 ·intro w9 hSw
  have hcd : w9.cell? a = some (.string s0) := hc0 w9 hSw
  go_simp
 simp only [Act.put, sA, sB, sC, sD, sE, sF]
 refine wpAnyH_take (i := 5) (v := .pointer (some ⟨w.heap.size, 1, none⟩)) rfl (by kernel_rfl) (by kernel_rfl) (by kernel_rfl) (fun c b X h => hP c b _ _ X h) (Or.inl ⟨by rfl, ?_⟩) hHeld ?_
 ·intro w9 hSw
  go_simp
 simp only [Act.put, sA, sB, sC, sD, sE, sF]
 refine wpAnyH_take (i := 6) (v := .slice (some a) x.d.ins.length x.ic) rfl (by kernel_rfl) (by kernel_rfl) (by kernel_rfl) (fun c b X h => hP c b _ _ X h) (Or.inl ⟨by rfl, ?_⟩) hHeld ?_
 ·intro w9 hSw
  have hcc := HK1.out w9 hSw
  go_simp
 simp only [Act.put, sA, sB, sC, sD, sE, sF]
 refine wpAnyH_take (i := 7) (v := .pointer (some (a.add 1))) rfl (by kernel_rfl) (by kernel_rfl) (by kernel_rfl) (fun c b X h => hP c b _ _ X h) (Or.inl ⟨by rfl, ?_⟩) hHeld ?_
 ·intro w9 hSw
  go_simp
 simp only [Act.put, sA, sB, sC, sD, sE, sF]
 refine wpAnyH_take (i := 8) (v := .string s1) rfl (by kernel_rfl) (by kernel_rfl) (by kernel_rfl) (fun c b X h => hP c b _ _ X h) (Or.inl ⟨by rfl, ?_⟩) hHeld ?_
 ·intro w9 hSw
  have hcd : w9.cell? ⟨a.block, a.off + 1, none⟩ = some (.string s1) := hc1 w9 hSw
  go_simp
 simp only [Act.put, sA, sB, sC, sD, sE, sF]
 exact nd_ hz0 hz1 hP hK V0 hHeld (by kernel_rfl)
end Go.Proofs.YtgimdkgjfenafaaGreatDoor
