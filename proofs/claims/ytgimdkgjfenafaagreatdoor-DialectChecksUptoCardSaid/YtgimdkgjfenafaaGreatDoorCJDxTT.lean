import Derived.Test.YtgimdkgjfenafaaGreatDoorCG07
import Derived.OrdersHeld
import Derived.Deep.Cut
import Derived.Test.YtgimdkgjfenafaaGreatDoorCG35
namespace Go.Proofs.YtgimdkgjfenafaaGreatDoor
open Go.RowKit
open Lib (hid)
theorem tkY {P : Program} {md : Region.Mode} {ops : Array Oper} {Q : Exit → Act → World → Prop} {S : World → Prop} (i : Nat) (v : Value) {oi : Oper} {fuel : Nat} {listed : Array Bool} {a : Act} {w : World} (hS : S w)
  (hy : ∀ w', S w' → (execOp a.eval oi).run P w' = .ok (.value v) w') (h : wpAnyH P md ops Q S fuel (listed.setIfInBounds i true) (a.put oi.dst v) w)
  (hi : ops[i]? = some oi := by rfl) (hs : Region.noSelect ops = true := by kernel_rfl) (hf : Region.free md ops listed i = true := by kernel_rfl) (hr : (Region.ready md ops listed).contains i = true := by kernel_rfl)
  (hg : Region.wanted oi (yielded ops a.tmps) = true := by rfl) (hQ : ∀ c a w, Q (.panic c) (a.put oi.dst v) w → Q (.panic c) a w := by exact fun _ _ _ h => h) : wpAnyH P md ops Q S (fuel + 1) listed a w :=
 wpAnyH_take hi hs hf hr hQ (.inl ⟨hg, hy⟩) hS h
theorem tkN {P : Program} {md : Region.Mode} {ops : Array Oper} {Q : Exit → Act → World → Prop} {S : World → Prop} (i : Nat) {oi : Oper} {fuel : Nat} {listed : Array Bool} {a : Act} {w : World} (hS : S w)
  (h : wpAnyH P md ops Q S fuel (listed.setIfInBounds i true) (a.put oi.dst undef) w)
  (hi : ops[i]? = some oi := by rfl) (hs : Region.noSelect ops = true := by kernel_rfl) (hf : Region.free md ops listed i = true := by kernel_rfl) (hr : (Region.ready md ops listed).contains i = true := by kernel_rfl)
  (hg : Region.wanted oi (yielded ops a.tmps) = false := by rfl) (hQ : ∀ c a w, Q (.panic c) (a.put oi.dst undef) w → Q (.panic c) a w := by exact fun _ _ _ h => h) : wpAnyH P md ops Q S (fuel + 1) listed a w :=
 wpAnyH_take hi hs hf hr hQ (.inr ⟨hg, rfl⟩) hS h
theorem isIn_traits (s : ByteArray) : isIn traitsL s = isIn allTraitsL s := by
 rw [Bool.eq_iff_iff, isIn_iff, isIn_iff]
 simp only [traitsL, allTraitsL, List.mem_cons, List.not_mem_nil, or_false]
 constructor <;> (intro h; rcases h with h | h | h | h | h | h | h | h | h <;> simp [h])
structure DefSmall (d : DefD) : Prop where
 zi : ∀ s ∈ d.ins, s.size ≤ 1048576
 zo : ∀ s ∈ d.outs, s.size ≤ 1048576
 li : d.ins.length ≤ 1048576
 lo : d.outs.length ≤ 1048576
 ln : d.needs.length ≤ 1048576
 lt : d.traits.length ≤ 1048576
theorem DefSmall.fit {d : DefD} (h : DefSmall d) : DefFit d := ⟨fun s hs => by have := h.zi s hs; omega, fun s hs => by have := h.zo s hs; omega, by have := h.li; omega, by have := h.lo; omega, by have := h.ln; omega, by have := h.lt; omega⟩
theorem exch_same (v : UInt8) (c : Cls) (u : UInt8) (l : List ByteArray) : exchL (.bind v c :: .same u :: l.map ruleOf) = ((Rule.bind v c).sortR == 2 && (Rule.same u).sortR == 3 && ((Rule.bind v c).v.toNat : Int) == ((Rule.same u).v.toNat : Int)) := by
 rw [Bool.eq_iff_iff]
 simp only [exchL, Rule.sortR, Rule.v, Bool.and_eq_true, beq_iff_eq]
 constructor
 ·intro h; exact ⟨⟨trivial, trivial⟩, by omega⟩
 ·intro h; have := h.2; omega
theorem exch_sort (r0 r1 : Rule) (l : List ByteArray) : exchL (r0 :: r1 :: l.map ruleOf) = (r0.sortR == 2 && r1.sortR == 3 && (r0.v.toNat : Int) == (r1.v.toNat : Int)) := by
 cases r0 <;> cases r1 <;> first
  | rfl
  | exact exch_same _ _ _ _
noncomputable def reg7 : Code := (Tryz.f24.body.bind (regionOf 7)).getD .skip
noncomputable def reg12 : Code := (Tryz.f24.body.bind (regionOf 12)).getD .skip
theorem right_rules {d : DefD} (h : rulesR false d.ins (fun _ => none) = none) : rightD d = false := by unfold rightD; rw [signed_ref, h]; simp
theorem right_rules2 {d : DefD} {f : Bnd} (h : rulesR false d.ins (fun _ => none) = some f) (h2 : (rulesR true d.outs f).isSome = false) : rightD d = false := by
 have e : signedL d = false := by rw [signed_ref, h]; exact h2
 unfold rightD; rw [e]; simp
theorem sgn_yes {d : DefD} {f : Bnd} (h : rulesR false d.ins (fun _ => none) = some f) (h2 : (rulesR true d.outs f).isSome = true) : signedL d = true := by rw [signed_ref, h]; exact h2
theorem needs_pair {w : World} {ao : Option Addr} {ns : List NeedD} {j : Nat} {n : NeedD} (h : NeedsAt w ao ns) (hj : ns[j]? = some n) {bk o : Nat} (ha : ao = some ⟨bk, o, none⟩) : w.cell? ⟨bk, o + j * 2, none⟩ = some (.string n.name) ∧ w.cell? ⟨bk, o + j * 2 + 1, none⟩ = some (.int .i64 n.kind) := by
 obtain ⟨bk', o', e, hc⟩ := RowIs.at need_len h hj
 rw [ha] at e
 cases e
 exact ⟨hc 0 _ rfl, hc 1 _ rfl⟩
def traitOK (l : List ByteArray) (k : Nat) : Prop := riseAt l k = true ∧ isIn allTraitsL (nthB l k) = true
theorem traits_all {l : List ByteArray} (h : ∀ k, k < l.length → traitOK l k) : risingL l = true ∧ l.all (isIn allTraitsL) = true := by
 refine ⟨risingL_yes rfl fun k hk => (h k hk).1, List.all_eq_true.2 fun s hs => ?_⟩
 obtain ⟨j, hj, e⟩ := List.getElem_of_mem hs
 have := (h j hj).2
 unfold nthB at this
 rw [List.getElem?_eq_getElem hj, e] at this
 exact this
theorem traits_no {d : DefD} {k : Nat} (hk : k < d.traits.length) (h : ¬ traitOK d.traits k) : rightD d = false := by
 have e : rightTraitsL d.traits = false := by
  cases hr : rightTraitsL d.traits with
  | false => rfl
  | true =>
   unfold rightTraitsL at hr
   simp only [Bool.and_eq_true] at hr
   refine absurd ⟨List.all_eq_true.1 hr.1.1 k (List.mem_range.2 hk), ?_⟩ h
   unfold nthB
   rw [List.getElem?_eq_getElem hk]
   exact List.all_eq_true.1 hr.1.2 _ (List.getElem_mem hk)
 unfold rightD; rw [e]; simp
def needOK (l : List NeedD) (k : Nat) : Prop := riseAt (l.map (fun x : NeedD => x.name)) k = true ∧ ∀ n, l[k]? = some n → rightN n = true
theorem needs_all {l : List NeedD} (h10 : l.length ≤ 10) (h : ∀ k, k < l.length → needOK l k) : rightNeedsL l = true := by
 unfold rightNeedsL
 rw [decide_eq_true h10, risingL_yes (n := l.length) (by rw [List.length_map]) fun k hk => (h k hk).1, List.all_eq_true.2 fun n hn => by
  obtain ⟨j, hj⟩ := List.getElem?_of_mem hn
  exact (h j (List.getElem?_eq_some_iff.1 hj).1).2 n hj]
 rfl
theorem needs_no {d : DefD} {k : Nat} (hk : k < d.needs.length) (h : ¬ needOK d.needs k) : rightD d = false := by
 have e : rightNeedsL d.needs = false := by
  cases hr : rightNeedsL d.needs with
  | false => rfl
  | true =>
   unfold rightNeedsL at hr
   simp only [Bool.and_eq_true] at hr
   exact absurd ⟨List.all_eq_true.1 hr.1.2 k (List.mem_range.2 (by rw [List.length_map]; exact hk)), fun n hn => List.all_eq_true.1 hr.2 n (List.mem_of_getElem? hn)⟩ h
 unfold rightD; rw [e]; simp
theorem riseAt_eq {l : List ByteArray} {p : Nat} {x y : ByteArray} (hx : l[p]? = some x) (hy : l[p + 1]? = some y) : riseAt l (p + 1) = Op.bytesLess x.toList y.toList := riseAt_at hx hy rfl
set_option maxHeartbeats 8000000 in
set_option maxRecDepth 100000 in
theorem region7_any {x : DEl} {w : World} {m : Nat} {Q : Exit → Act → World → Prop} {n : NeedD} {bk o : Nat} {u0 u2 u3 u5 u6 u7 u8 u9 u10 u11 u12 u13 u14 u15 u16 u17 u18 u19 u20 u21 u22 u23 u24 u25 u26 u27 u28 u29 u30 u31 u32 u33 u34 u35 u36 u37 u38 u39 u40 u41 u42 u43 u44 u45 u46 u47 u48 u49 u50 u51 u52 u53 u54 u55 u56 u57 u58 u59 u106 u107 u108 u109 u110 u111 u112 u113 u114 u115 u116 u117 u118 u119 u120 u121 u122 u123 u124 u125 u126 u127 u128 u129 u130 u131 u132 u133 u134 u135 u136 u137 u138 u139 u140 u141 u142 u143 u144 u145 u146 u147 u148 u149 u150 u151 u152 u153 u154 u155 u156 u157 u158 u159 u160 u161 u162 u163 u164 u165 u166 u167 u168 u169 u170 u171 u172 u173 u174 u175 u176 u177 u178 u179 u180 u181 u182 u183 u184 u185 u186 u187 u188 u189 u190 u191 u192 u193 u194 u195 u196 u197 u198 u199 u200 u201 u202 u203 u204 u205 u206 u207 : Value}
  (hP : ∀ c b d v X, Q (.panic c) (Act.put b d v) X → Q (.panic c) b X) (hK : ∀ {u60 u61 u62 u63 u64 u65 u66 u67 u68 u69 u70 u71 u72 u73 u74 u75 u76 u77 u78 u79 u80 u81 u82 u83 u84 u85 u86 u87 u88 u89 u90 u91 u92 u93 u94 u95 u96 u97 u98 u99 u100 u101 u102 u103 u104 : Value} (b : Bool) (X : World), Hid (RrS x w X) → (b = true → ¬ needOK x.d.needs m) → (b = false → needOK x.d.needs m) → Q .normal ⟨#[u0, .pointer (some ⟨w.heap.size, 0, none⟩), u2, u3, .int .i64 (m : Int), u5, u6, u7, u8, u9, u10, u11, u12, u13, u14, u15, u16, u17, u18, u19, u20, u21, u22, u23, u24, u25, u26, u27, u28, u29, u30, u31, u32, u33, u34, u35, u36, u37, u38, u39, u40, u41, u42, u43, u44, u45, u46, u47, u48, u49, u50, u51, u52, u53, u54, u55, u56, u57, u58, u59, u60, u61, u62, u63, u64, u65, u66, u67, u68, u69, u70, u71, u72, u73, u74, u75, u76, u77, u78, u79, u80, u81, u82, u83, u84, u85, u86, u87, u88, u89, u90, u91, u92, u93, u94, u95, u96, u97, u98, u99, u100, u101, u102, u103, u104, .bool b, u106, u107, u108, u109, u110, u111, u112, u113, u114, u115, u116, u117, u118, u119, u120, u121, u122, u123, u124, u125, u126, u127, u128, u129, u130, u131, u132, u133, u134, u135, u136, u137, u138, u139, u140, u141, u142, u143, u144, u145, u146, u147, u148, u149, u150, u151, u152, u153, u154, u155, u156, u157, u158, u159, u160, u161, u162, u163, u164, u165, u166, u167, u168, u169, u170, u171, u172, u173, u174, u175, u176, u177, u178, u179, u180, u181, u182, u183, u184, u185, u186, u187, u188, u189, u190, u191, u192, u193, u194, u195, u196, u197, u198, u199, u200, u201, u202, u203, u204, u205, u206, u207], []⟩ X)
  (HD : Hid (DefOK w x)) (HAO : Hid (x.no = some ⟨bk, o, none⟩)) (HJ : Hid (x.d.needs[m]? = some n)) (HLT : Hid (m < x.d.needs.length)) (hlti : (m : Int) < (x.d.needs.length : Int)) (hni : (x.d.needs.length : Int) ≤ 1048576) (wr : World) (HC : Hid (RrS x w wr)) (HP : Hid (wr.cell? ⟨bk, o + m * 2, none⟩ = some (.string n.name) ∧ wr.cell? ⟨bk, o + m * 2 + 1, none⟩ = some (.int .i64 n.kind))) {u60 u61 u62 u63 u64 u65 u66 u67 u68 u69 u70 u71 u72 u73 u74 u75 u76 u77 u78 u79 u80 u81 u82 u83 u84 u85 u86 u87 u88 u89 u90 u91 u92 u93 u94 u95 u96 u97 u98 u99 u100 u101 u102 u103 u104 u105 : Value} : Code.wp Tryz.prog reg7 Q ⟨#[u0, .pointer (some ⟨w.heap.size, 0, none⟩), u2, u3, .int .i64 (m : Int), u5, u6, u7, u8, u9, u10, u11, u12, u13, u14, u15, u16, u17, u18, u19, u20, u21, u22, u23, u24, u25, u26, u27, u28, u29, u30, u31, u32, u33, u34, u35, u36, u37, u38, u39, u40, u41, u42, u43, u44, u45, u46, u47, u48, u49, u50, u51, u52, u53, u54, u55, u56, u57, u58, u59, u60, u61, u62, u63, u64, u65, u66, u67, u68, u69, u70, u71, u72, u73, u74, u75, u76, u77, u78, u79, u80, u81, u82, u83, u84, u85, u86, u87, u88, u89, u90, u91, u92, u93, u94, u95, u96, u97, u98, u99, u100, u101, u102, u103, u104, u105, u106, u107, u108, u109, u110, u111, u112, u113, u114, u115, u116, u117, u118, u119, u120, u121, u122, u123, u124, u125, u126, u127, u128, u129, u130, u131, u132, u133, u134, u135, u136, u137, u138, u139, u140, u141, u142, u143, u144, u145, u146, u147, u148, u149, u150, u151, u152, u153, u154, u155, u156, u157, u158, u159, u160, u161, u162, u163, u164, u165, u166, u167, u168, u169, u170, u171, u172, u173, u174, u175, u176, u177, u178, u179, u180, u181, u182, u183, u184, u185, u186, u187, u188, u189, u190, u191, u192, u193, u194, u195, u196, u197, u198, u199, u200, u201, u202, u203, u204, u205, u206, u207], []⟩ wr := by
 conv => arg 2; whnf
 refine wp_region_held_drew (S := fun w' => Hid (w' = wr.drew)) (by kernel_rfl) rfl (fun hHeld => ?_)
 have HCV := hid (show RrS x w wr.drew from ⟨HC.out.t0, HC.out.below.drew⟩)
 have HPV := hid (show wr.drew.cell? ⟨bk, o + m * 2, none⟩ = some (.string n.name) ∧ wr.drew.cell? ⟨bk, o + m * 2 + 1, none⟩ = some (.int .i64 n.kind) from HP.out)
 have HBV := hid (show NeedsAt wr.drew x.no x.d.needs from RowIs.below HD.out.needs HCV.out.below)
 generalize wr.drew = V0 at hHeld HCV HPV HBV ⊢
 have HN3 := hid (fun (X : World) (h : Hid (X = V0)) => (show X.cell? ⟨w.heap.size, 3, none⟩ = some (.slice (some ⟨bk, o, none⟩) x.d.needs.length x.nc) by rw [h.out]; have := (dcells7 HCV.out.t0).2.2.2.1; rw [HAO.out] at this; exact this))
 have HNN := hid (fun (X : World) (h : Hid (X = V0)) => (show X.cell? ⟨bk, o + m * 2, none⟩ = some (.string n.name) by rw [h.out]; exact HPV.out.1))
 have HNK := hid (fun (X : World) (h : Hid (X = V0)) => (show X.cell? ⟨bk, o + m * 2 + 1, none⟩ = some (.int .i64 n.kind) by rw [h.out]; exact HPV.out.2))
 refine tkY 0 (.pointer (some ⟨w.heap.size, 3, none⟩)) hHeld ?_ ?_ (hQ := fun c b X h => hP c b _ _ X h)
 ·intro w9 hSw
  go_simp
 simp only [Act.put, sA, sC, sD, sE, sF]
 refine tkY 1 (.slice (some ⟨bk, o, none⟩) x.d.needs.length x.nc) hHeld ?_ ?_ (hQ := fun c b X h => hP c b _ _ X h)
 ·intro w9 hSw
  have hcc := HN3.out w9 hSw
  go_simp
 simp only [Act.put, sA, sB, sC, sD, sE, sF]
 refine tkY 2 (.int .i64 (m : Int)) hHeld ?_ ?_ (hQ := fun c b X h => hP c b _ _ X h)
 ·intro w9 hSw
  go_simp
 simp only [Act.put, sA, sB, sC, sD, sE, sF]
 refine tkY 3 (.pointer (some ⟨bk, o + m * 2, none⟩)) hHeld ?_ ?_ (hQ := fun c b X h => hP c b _ _ X h)
 ·intro w9 hSw
  go_simp
 simp only [Act.put, sA, sB, sC, sD, sE, sF]
 refine tkY 4 (.pointer (some ⟨bk, o + m * 2, none⟩)) hHeld ?_ ?_ (hQ := fun c b X h => hP c b _ _ X h)
 ·intro w9 hSw
  go_simp
 simp only [Act.put, sA, sB, sC, sD, sE, sF]
 refine tkY 5 (.string n.name) hHeld ?_ ?_ (hQ := fun c b X h => hP c b _ _ X h)
 ·intro w9 hSw
  have hcc := HNN.out w9 hSw
  go_simp
 simp only [Act.put, sA, sB, sC, sD, sE, sF]
 refine wpAnyH_ready (rs := [6]) (by kernel_rfl) (by simp) ?_
 refine AllReadyH.cons rfl (fun K hK => ?_) AllReadyH.nil
 go_simp
 go_at_call 50
 with_reducible refine (IsName_some n.name V0).mono ?_
 rintro e v1 ⟨b, rfl, hnb, rfl⟩
 try dsimp only
 have HNB := hid hnb
 refine hK.out _ _ hHeld (fun h1 => ?_)
 clear hK K hnb h1
 try simp only [Act.put, sA, sB, sC, sD, sE, sF]
 cases b
 ·skip
  have HX := hid (show ¬ needOK x.d.needs m from (fun h => by have e := h.2 n HJ.out; unfold rightN at e; rw [HNB.out] at e; simp at e))
  refine tkY 7 (.bool true) hHeld ?_ ?_ (hQ := fun c b X h => hP c b _ _ X h)
  ·intro w9 hSw
   go_simp
  simp only [Act.put, sA, sB, sC, sD, sE, sF]
  refine tkY 8 (.bool true) hHeld ?_ ?_ (hQ := fun c b X h => hP c b _ _ X h)
  ·intro w9 hSw
   go_simp
  simp only [Act.put, sA, sB, sC, sD, sE, sF]
  refine tkN 9 hHeld ?_ (hQ := fun c b X h => hP c b _ _ X h)
  simp only [Act.put, sA, sB, sC, sD, sE, sF]
  refine tkN 10 hHeld ?_ (hQ := fun c b X h => hP c b _ _ X h)
  simp only [Act.put, sA, sB, sC, sD, sE, sF]
  refine tkN 11 hHeld ?_ (hQ := fun c b X h => hP c b _ _ X h)
  simp only [Act.put, sA, sB, sC, sD, sE, sF]
  refine tkN 12 hHeld ?_ (hQ := fun c b X h => hP c b _ _ X h)
  simp only [Act.put, sA, sB, sC, sD, sE, sF]
  refine tkN 13 hHeld ?_ (hQ := fun c b X h => hP c b _ _ X h)
  simp only [Act.put, sA, sB, sC, sD, sE, sF]
  refine tkN 14 hHeld ?_ (hQ := fun c b X h => hP c b _ _ X h)
  simp only [Act.put, sA, sB, sC, sD, sE, sF]
  refine tkN 15 hHeld ?_ (hQ := fun c b X h => hP c b _ _ X h)
  simp only [Act.put, sA, sB, sC, sD, sE, sF]
  refine tkY 16 (.bool true) hHeld ?_ ?_ (hQ := fun c b X h => hP c b _ _ X h)
  ·intro w9 hSw
   go_simp
  simp only [Act.put, sA, sB, sC, sD, sE, sF]
  refine tkY 17 (.bool true) hHeld ?_ ?_ (hQ := fun c b X h => hP c b _ _ X h)
  ·intro w9 hSw
   go_simp
  simp only [Act.put, sA, sB, sC, sD, sE, sF]
  refine tkN 18 hHeld ?_ (hQ := fun c b X h => hP c b _ _ X h)
  simp only [Act.put, sA, sB, sC, sD, sE, sF]
  refine tkN 19 hHeld ?_ (hQ := fun c b X h => hP c b _ _ X h)
  simp only [Act.put, sA, sB, sC, sD, sE, sF]
  refine tkN 20 hHeld ?_ (hQ := fun c b X h => hP c b _ _ X h)
  simp only [Act.put, sA, sB, sC, sD, sE, sF]
  refine tkN 21 hHeld ?_ (hQ := fun c b X h => hP c b _ _ X h)
  simp only [Act.put, sA, sB, sC, sD, sE, sF]
  refine tkN 22 hHeld ?_ (hQ := fun c b X h => hP c b _ _ X h)
  simp only [Act.put, sA, sB, sC, sD, sE, sF]
  refine tkN 23 hHeld ?_ (hQ := fun c b X h => hP c b _ _ X h)
  simp only [Act.put, sA, sB, sC, sD, sE, sF]
  refine tkN 24 hHeld ?_ (hQ := fun c b X h => hP c b _ _ X h)
  simp only [Act.put, sA, sB, sC, sD, sE, sF]
  refine tkY 25 (.bool true) hHeld ?_ ?_ (hQ := fun c b X h => hP c b _ _ X h)
  ·intro w9 hSw
   go_simp
  simp only [Act.put, sA, sB, sC, sD, sE, sF]
  refine tkY 26 (.bool true) hHeld ?_ ?_ (hQ := fun c b X h => hP c b _ _ X h)
  ·intro w9 hSw
   go_simp
  simp only [Act.put, sA, sB, sC, sD, sE, sF]
  refine tkN 27 hHeld ?_ (hQ := fun c b X h => hP c b _ _ X h)
  simp only [Act.put, sA, sB, sC, sD, sE, sF]
  refine tkN 28 hHeld ?_ (hQ := fun c b X h => hP c b _ _ X h)
  simp only [Act.put, sA, sB, sC, sD, sE, sF]
  refine tkN 29 hHeld ?_ (hQ := fun c b X h => hP c b _ _ X h)
  simp only [Act.put, sA, sB, sC, sD, sE, sF]
  refine tkN 30 hHeld ?_ (hQ := fun c b X h => hP c b _ _ X h)
  simp only [Act.put, sA, sB, sC, sD, sE, sF]
  refine tkN 31 hHeld ?_ (hQ := fun c b X h => hP c b _ _ X h)
  simp only [Act.put, sA, sB, sC, sD, sE, sF]
  refine tkN 32 hHeld ?_ (hQ := fun c b X h => hP c b _ _ X h)
  simp only [Act.put, sA, sB, sC, sD, sE, sF]
  refine tkN 33 hHeld ?_ (hQ := fun c b X h => hP c b _ _ X h)
  simp only [Act.put, sA, sB, sC, sD, sE, sF]
  refine tkN 34 hHeld ?_ (hQ := fun c b X h => hP c b _ _ X h)
  simp only [Act.put, sA, sB, sC, sD, sE, sF]
  refine tkN 35 hHeld ?_ (hQ := fun c b X h => hP c b _ _ X h)
  simp only [Act.put, sA, sB, sC, sD, sE, sF]
  refine tkN 36 hHeld ?_ (hQ := fun c b X h => hP c b _ _ X h)
  simp only [Act.put, sA, sB, sC, sD, sE, sF]
  refine tkN 37 hHeld ?_ (hQ := fun c b X h => hP c b _ _ X h)
  simp only [Act.put, sA, sB, sC, sD, sE, sF]
  refine tkN 38 hHeld ?_ (hQ := fun c b X h => hP c b _ _ X h)
  simp only [Act.put, sA, sB, sC, sD, sE, sF]
  refine tkN 39 hHeld ?_ (hQ := fun c b X h => hP c b _ _ X h)
  simp only [Act.put, sA, sB, sC, sD, sE, sF]
  refine tkN 40 hHeld ?_ (hQ := fun c b X h => hP c b _ _ X h)
  simp only [Act.put, sA, sB, sC, sD, sE, sF]
  refine tkN 41 hHeld ?_ (hQ := fun c b X h => hP c b _ _ X h)
  simp only [Act.put, sA, sB, sC, sD, sE, sF]
  refine tkN 42 hHeld ?_ (hQ := fun c b X h => hP c b _ _ X h)
  simp only [Act.put, sA, sB, sC, sD, sE, sF]
  refine tkN 43 hHeld ?_ (hQ := fun c b X h => hP c b _ _ X h)
  simp only [Act.put, sA, sB, sC, sD, sE, sF]
  refine tkN 44 hHeld ?_ (hQ := fun c b X h => hP c b _ _ X h)
  simp only [Act.put, sA, sB, sC, sD, sE, sF]
  refine tkY 45 (.bool true) hHeld ?_ ?_ (hQ := fun c b X h => hP c b _ _ X h)
  ·intro w9 hSw
   go_simp
  simp only [Act.put, sA, sB, sC, sD, sE, sF]
  refine wpAnyH_done (by kernel_rfl) ?_ _
  clear HC
  have HC := HCV
  exact hK true _ HC (fun _ => HX.out) (fun h => by cases h)
 refine tkY 7 (.bool false) hHeld ?_ ?_ (hQ := fun c b X h => hP c b _ _ X h)
 ·intro w9 hSw
  go_simp
 simp only [Act.put, sA, sB, sC, sD, sE, sF]
 refine tkY 8 (.bool false) hHeld ?_ ?_ (hQ := fun c b X h => hP c b _ _ X h)
 ·intro w9 hSw
  go_simp
 simp only [Act.put, sA, sB, sC, sD, sE, sF]
 refine tkY 9 (.pointer (some ⟨w.heap.size, 3, none⟩)) hHeld ?_ ?_ (hQ := fun c b X h => hP c b _ _ X h)
 ·intro w9 hSw
  go_simp
 simp only [Act.put, sA, sB, sC, sD, sE, sF]
 refine tkY 10 (.slice (some ⟨bk, o, none⟩) x.d.needs.length x.nc) hHeld ?_ ?_ (hQ := fun c b X h => hP c b _ _ X h)
 ·intro w9 hSw
  have hcc := HN3.out w9 hSw
  go_simp
 simp only [Act.put, sA, sB, sC, sD, sE, sF]
 refine tkY 11 (.int .i64 (m : Int)) hHeld ?_ ?_ (hQ := fun c b X h => hP c b _ _ X h)
 ·intro w9 hSw
  go_simp
 simp only [Act.put, sA, sB, sC, sD, sE, sF]
 refine tkY 12 (.pointer (some ⟨bk, o + m * 2, none⟩)) hHeld ?_ ?_ (hQ := fun c b X h => hP c b _ _ X h)
 ·intro w9 hSw
  go_simp
 simp only [Act.put, sA, sB, sC, sD, sE, sF]
 refine tkY 13 (.pointer (some ⟨bk, o + m * 2 + 1, none⟩)) hHeld ?_ ?_ (hQ := fun c b X h => hP c b _ _ X h)
 ·intro w9 hSw
  go_simp
 simp only [Act.put, sA, sB, sC, sD, sE, sF]
 refine tkY 14 (.int .i64 n.kind) hHeld ?_ ?_ (hQ := fun c b X h => hP c b _ _ X h)
 ·intro w9 hSw
  have hcc := HNK.out w9 hSw
  go_simp
 simp only [Act.put, sA, sB, sC, sD, sE, sF]
 by_cases h0 : 0 ≤ n.kind
 rotate_left
 ·have h0i : decide (n.kind < 0) = true := decide_eq_true (by omega)
  have HX := hid (show ¬ needOK x.d.needs m from (fun h => by have e := h.2 n HJ.out; unfold rightN at e; rw [decide_eq_false h0] at e; simp at e))
  clear h0
  refine tkY 15 (.bool true) hHeld ?_ ?_ (hQ := fun c b X h => hP c b _ _ X h)
  ·intro w9 hSw
   go_simp
  simp only [Act.put, sA, sB, sC, sD, sE, sF]
  refine tkY 16 (.bool true) hHeld ?_ ?_ (hQ := fun c b X h => hP c b _ _ X h)
  ·intro w9 hSw
   go_simp
  simp only [Act.put, sA, sB, sC, sD, sE, sF]
  refine tkY 17 (.bool true) hHeld ?_ ?_ (hQ := fun c b X h => hP c b _ _ X h)
  ·intro w9 hSw
   go_simp
  simp only [Act.put, sA, sB, sC, sD, sE, sF]
  refine tkN 18 hHeld ?_ (hQ := fun c b X h => hP c b _ _ X h)
  simp only [Act.put, sA, sB, sC, sD, sE, sF]
  refine tkN 19 hHeld ?_ (hQ := fun c b X h => hP c b _ _ X h)
  simp only [Act.put, sA, sB, sC, sD, sE, sF]
  refine tkN 20 hHeld ?_ (hQ := fun c b X h => hP c b _ _ X h)
  simp only [Act.put, sA, sB, sC, sD, sE, sF]
  refine tkN 21 hHeld ?_ (hQ := fun c b X h => hP c b _ _ X h)
  simp only [Act.put, sA, sB, sC, sD, sE, sF]
  refine tkN 22 hHeld ?_ (hQ := fun c b X h => hP c b _ _ X h)
  simp only [Act.put, sA, sB, sC, sD, sE, sF]
  refine tkN 23 hHeld ?_ (hQ := fun c b X h => hP c b _ _ X h)
  simp only [Act.put, sA, sB, sC, sD, sE, sF]
  refine tkN 24 hHeld ?_ (hQ := fun c b X h => hP c b _ _ X h)
  simp only [Act.put, sA, sB, sC, sD, sE, sF]
  refine tkY 25 (.bool true) hHeld ?_ ?_ (hQ := fun c b X h => hP c b _ _ X h)
  ·intro w9 hSw
   go_simp
  simp only [Act.put, sA, sB, sC, sD, sE, sF]
  refine tkY 26 (.bool true) hHeld ?_ ?_ (hQ := fun c b X h => hP c b _ _ X h)
  ·intro w9 hSw
   go_simp
  simp only [Act.put, sA, sB, sC, sD, sE, sF]
  refine tkN 27 hHeld ?_ (hQ := fun c b X h => hP c b _ _ X h)
  simp only [Act.put, sA, sB, sC, sD, sE, sF]
  refine tkN 28 hHeld ?_ (hQ := fun c b X h => hP c b _ _ X h)
  simp only [Act.put, sA, sB, sC, sD, sE, sF]
  refine tkN 29 hHeld ?_ (hQ := fun c b X h => hP c b _ _ X h)
  simp only [Act.put, sA, sB, sC, sD, sE, sF]
  refine tkN 30 hHeld ?_ (hQ := fun c b X h => hP c b _ _ X h)
  simp only [Act.put, sA, sB, sC, sD, sE, sF]
  refine tkN 31 hHeld ?_ (hQ := fun c b X h => hP c b _ _ X h)
  simp only [Act.put, sA, sB, sC, sD, sE, sF]
  refine tkN 32 hHeld ?_ (hQ := fun c b X h => hP c b _ _ X h)
  simp only [Act.put, sA, sB, sC, sD, sE, sF]
  refine tkN 33 hHeld ?_ (hQ := fun c b X h => hP c b _ _ X h)
  simp only [Act.put, sA, sB, sC, sD, sE, sF]
  refine tkN 34 hHeld ?_ (hQ := fun c b X h => hP c b _ _ X h)
  simp only [Act.put, sA, sB, sC, sD, sE, sF]
  refine tkN 35 hHeld ?_ (hQ := fun c b X h => hP c b _ _ X h)
  simp only [Act.put, sA, sB, sC, sD, sE, sF]
  refine tkN 36 hHeld ?_ (hQ := fun c b X h => hP c b _ _ X h)
  simp only [Act.put, sA, sB, sC, sD, sE, sF]
  refine tkN 37 hHeld ?_ (hQ := fun c b X h => hP c b _ _ X h)
  simp only [Act.put, sA, sB, sC, sD, sE, sF]
  refine tkN 38 hHeld ?_ (hQ := fun c b X h => hP c b _ _ X h)
  simp only [Act.put, sA, sB, sC, sD, sE, sF]
  refine tkN 39 hHeld ?_ (hQ := fun c b X h => hP c b _ _ X h)
  simp only [Act.put, sA, sB, sC, sD, sE, sF]
  refine tkN 40 hHeld ?_ (hQ := fun c b X h => hP c b _ _ X h)
  simp only [Act.put, sA, sB, sC, sD, sE, sF]
  refine tkN 41 hHeld ?_ (hQ := fun c b X h => hP c b _ _ X h)
  simp only [Act.put, sA, sB, sC, sD, sE, sF]
  refine tkN 42 hHeld ?_ (hQ := fun c b X h => hP c b _ _ X h)
  simp only [Act.put, sA, sB, sC, sD, sE, sF]
  refine tkN 43 hHeld ?_ (hQ := fun c b X h => hP c b _ _ X h)
  simp only [Act.put, sA, sB, sC, sD, sE, sF]
  refine tkN 44 hHeld ?_ (hQ := fun c b X h => hP c b _ _ X h)
  simp only [Act.put, sA, sB, sC, sD, sE, sF]
  refine tkY 45 (.bool true) hHeld ?_ ?_ (hQ := fun c b X h => hP c b _ _ X h)
  ·intro w9 hSw
   go_simp
  simp only [Act.put, sA, sB, sC, sD, sE, sF]
  refine wpAnyH_done (by kernel_rfl) ?_ _
  clear HC
  have HC := HCV
  exact hK true _ HC (fun _ => HX.out) (fun h => by cases h)
 have h0i : decide (n.kind < 0) = false := decide_eq_false (by omega)
 have HK0 := hid h0
 clear h0
 refine tkY 15 (.bool false) hHeld ?_ ?_ (hQ := fun c b X h => hP c b _ _ X h)
 ·intro w9 hSw
  go_simp
 simp only [Act.put, sA, sB, sC, sD, sE, sF]
 refine tkY 16 (.bool false) hHeld ?_ ?_ (hQ := fun c b X h => hP c b _ _ X h)
 ·intro w9 hSw
  go_simp
 simp only [Act.put, sA, sB, sC, sD, sE, sF]
 refine tkY 17 (.bool false) hHeld ?_ ?_ (hQ := fun c b X h => hP c b _ _ X h)
 ·intro w9 hSw
  go_simp
 simp only [Act.put, sA, sB, sC, sD, sE, sF]
 refine tkY 18 (.pointer (some ⟨w.heap.size, 3, none⟩)) hHeld ?_ ?_ (hQ := fun c b X h => hP c b _ _ X h)
 ·intro w9 hSw
  go_simp
 simp only [Act.put, sA, sB, sC, sD, sE, sF]
 refine tkY 19 (.slice (some ⟨bk, o, none⟩) x.d.needs.length x.nc) hHeld ?_ ?_ (hQ := fun c b X h => hP c b _ _ X h)
 ·intro w9 hSw
  have hcc := HN3.out w9 hSw
  go_simp
 simp only [Act.put, sA, sB, sC, sD, sE, sF]
 refine tkY 20 (.int .i64 (m : Int)) hHeld ?_ ?_ (hQ := fun c b X h => hP c b _ _ X h)
 ·intro w9 hSw
  go_simp
 simp only [Act.put, sA, sB, sC, sD, sE, sF]
 refine tkY 21 (.pointer (some ⟨bk, o + m * 2, none⟩)) hHeld ?_ ?_ (hQ := fun c b X h => hP c b _ _ X h)
 ·intro w9 hSw
  go_simp
 simp only [Act.put, sA, sB, sC, sD, sE, sF]
 refine tkY 22 (.pointer (some ⟨bk, o + m * 2 + 1, none⟩)) hHeld ?_ ?_ (hQ := fun c b X h => hP c b _ _ X h)
 ·intro w9 hSw
  go_simp
 simp only [Act.put, sA, sB, sC, sD, sE, sF]
 refine tkY 23 (.int .i64 n.kind) hHeld ?_ ?_ (hQ := fun c b X h => hP c b _ _ X h)
 ·intro w9 hSw
  have hcc := HNK.out w9 hSw
  go_simp
 simp only [Act.put, sA, sB, sC, sD, sE, sF]
 by_cases h5 : n.kind ≤ 5
 rotate_left
 ·have h5i : decide (n.kind > 5) = true := decide_eq_true (by omega)
  have HX := hid (show ¬ needOK x.d.needs m from (fun h => by have e := h.2 n HJ.out; unfold rightN at e; rw [decide_eq_false h5] at e; simp at e))
  clear h5
  refine tkY 24 (.bool true) hHeld ?_ ?_ (hQ := fun c b X h => hP c b _ _ X h)
  ·intro w9 hSw
   go_simp
  simp only [Act.put, sA, sB, sC, sD, sE, sF]
  refine tkY 25 (.bool true) hHeld ?_ ?_ (hQ := fun c b X h => hP c b _ _ X h)
  ·intro w9 hSw
   go_simp
  simp only [Act.put, sA, sB, sC, sD, sE, sF]
  refine tkY 26 (.bool true) hHeld ?_ ?_ (hQ := fun c b X h => hP c b _ _ X h)
  ·intro w9 hSw
   go_simp
  simp only [Act.put, sA, sB, sC, sD, sE, sF]
  refine tkN 27 hHeld ?_ (hQ := fun c b X h => hP c b _ _ X h)
  simp only [Act.put, sA, sB, sC, sD, sE, sF]
  refine tkN 28 hHeld ?_ (hQ := fun c b X h => hP c b _ _ X h)
  simp only [Act.put, sA, sB, sC, sD, sE, sF]
  refine tkN 29 hHeld ?_ (hQ := fun c b X h => hP c b _ _ X h)
  simp only [Act.put, sA, sB, sC, sD, sE, sF]
  refine tkN 30 hHeld ?_ (hQ := fun c b X h => hP c b _ _ X h)
  simp only [Act.put, sA, sB, sC, sD, sE, sF]
  refine tkN 31 hHeld ?_ (hQ := fun c b X h => hP c b _ _ X h)
  simp only [Act.put, sA, sB, sC, sD, sE, sF]
  refine tkN 32 hHeld ?_ (hQ := fun c b X h => hP c b _ _ X h)
  simp only [Act.put, sA, sB, sC, sD, sE, sF]
  refine tkN 33 hHeld ?_ (hQ := fun c b X h => hP c b _ _ X h)
  simp only [Act.put, sA, sB, sC, sD, sE, sF]
  refine tkN 34 hHeld ?_ (hQ := fun c b X h => hP c b _ _ X h)
  simp only [Act.put, sA, sB, sC, sD, sE, sF]
  refine tkN 35 hHeld ?_ (hQ := fun c b X h => hP c b _ _ X h)
  simp only [Act.put, sA, sB, sC, sD, sE, sF]
  refine tkN 36 hHeld ?_ (hQ := fun c b X h => hP c b _ _ X h)
  simp only [Act.put, sA, sB, sC, sD, sE, sF]
  refine tkN 37 hHeld ?_ (hQ := fun c b X h => hP c b _ _ X h)
  simp only [Act.put, sA, sB, sC, sD, sE, sF]
  refine tkN 38 hHeld ?_ (hQ := fun c b X h => hP c b _ _ X h)
  simp only [Act.put, sA, sB, sC, sD, sE, sF]
  refine tkN 39 hHeld ?_ (hQ := fun c b X h => hP c b _ _ X h)
  simp only [Act.put, sA, sB, sC, sD, sE, sF]
  refine tkN 40 hHeld ?_ (hQ := fun c b X h => hP c b _ _ X h)
  simp only [Act.put, sA, sB, sC, sD, sE, sF]
  refine tkN 41 hHeld ?_ (hQ := fun c b X h => hP c b _ _ X h)
  simp only [Act.put, sA, sB, sC, sD, sE, sF]
  refine tkN 42 hHeld ?_ (hQ := fun c b X h => hP c b _ _ X h)
  simp only [Act.put, sA, sB, sC, sD, sE, sF]
  refine tkN 43 hHeld ?_ (hQ := fun c b X h => hP c b _ _ X h)
  simp only [Act.put, sA, sB, sC, sD, sE, sF]
  refine tkN 44 hHeld ?_ (hQ := fun c b X h => hP c b _ _ X h)
  simp only [Act.put, sA, sB, sC, sD, sE, sF]
  refine tkY 45 (.bool true) hHeld ?_ ?_ (hQ := fun c b X h => hP c b _ _ X h)
  ·intro w9 hSw
   go_simp
  simp only [Act.put, sA, sB, sC, sD, sE, sF]
  refine wpAnyH_done (by kernel_rfl) ?_ _
  clear HC
  have HC := HCV
  exact hK true _ HC (fun _ => HX.out) (fun h => by cases h)
 have h5i : decide (n.kind > 5) = false := decide_eq_false (by omega)
 have HRN := hid (show rightN n = true by unfold rightN; rw [HNB.out, decide_eq_true HK0.out, decide_eq_true h5]; rfl)
 clear h5
 refine tkY 24 (.bool false) hHeld ?_ ?_ (hQ := fun c b X h => hP c b _ _ X h)
 ·intro w9 hSw
  go_simp
 simp only [Act.put, sA, sB, sC, sD, sE, sF]
 refine tkY 25 (.bool false) hHeld ?_ ?_ (hQ := fun c b X h => hP c b _ _ X h)
 ·intro w9 hSw
  go_simp
 simp only [Act.put, sA, sB, sC, sD, sE, sF]
 refine tkY 26 (.bool false) hHeld ?_ ?_ (hQ := fun c b X h => hP c b _ _ X h)
 ·intro w9 hSw
  go_simp
 simp only [Act.put, sA, sB, sC, sD, sE, sF]
 refine tkY 27 (.int .i64 (m : Int)) hHeld ?_ ?_ (hQ := fun c b X h => hP c b _ _ X h)
 ·intro w9 hSw
  go_simp
 simp only [Act.put, sA, sB, sC, sD, sE, sF]
 by_cases hm0 : m = 0
 ·have HZ := hid hm0
  have HOK := hid (show needOK x.d.needs m from ⟨by rw [hm0]; rfl, fun y hy => by rw [HJ.out] at hy; cases hy; exact HRN.out⟩)
  clear hm0
  refine tkY 28 (.bool false) hHeld ?_ ?_ (hQ := fun c b X h => hP c b _ _ X h)
  ·intro w9 hSw
   go_simp
   exact HZ.out
  simp only [Act.put, sA, sB, sC, sD, sE, sF]
  refine tkY 29 (.bool false) hHeld ?_ ?_ (hQ := fun c b X h => hP c b _ _ X h)
  ·intro w9 hSw
   go_simp
  simp only [Act.put, sA, sB, sC, sD, sE, sF]
  refine tkN 30 hHeld ?_ (hQ := fun c b X h => hP c b _ _ X h)
  simp only [Act.put, sA, sB, sC, sD, sE, sF]
  refine tkN 31 hHeld ?_ (hQ := fun c b X h => hP c b _ _ X h)
  simp only [Act.put, sA, sB, sC, sD, sE, sF]
  refine tkN 32 hHeld ?_ (hQ := fun c b X h => hP c b _ _ X h)
  simp only [Act.put, sA, sB, sC, sD, sE, sF]
  refine tkN 33 hHeld ?_ (hQ := fun c b X h => hP c b _ _ X h)
  simp only [Act.put, sA, sB, sC, sD, sE, sF]
  refine tkN 34 hHeld ?_ (hQ := fun c b X h => hP c b _ _ X h)
  simp only [Act.put, sA, sB, sC, sD, sE, sF]
  refine tkN 35 hHeld ?_ (hQ := fun c b X h => hP c b _ _ X h)
  simp only [Act.put, sA, sB, sC, sD, sE, sF]
  refine tkN 36 hHeld ?_ (hQ := fun c b X h => hP c b _ _ X h)
  simp only [Act.put, sA, sB, sC, sD, sE, sF]
  refine tkN 37 hHeld ?_ (hQ := fun c b X h => hP c b _ _ X h)
  simp only [Act.put, sA, sB, sC, sD, sE, sF]
  refine tkN 38 hHeld ?_ (hQ := fun c b X h => hP c b _ _ X h)
  simp only [Act.put, sA, sB, sC, sD, sE, sF]
  refine tkN 39 hHeld ?_ (hQ := fun c b X h => hP c b _ _ X h)
  simp only [Act.put, sA, sB, sC, sD, sE, sF]
  refine tkN 40 hHeld ?_ (hQ := fun c b X h => hP c b _ _ X h)
  simp only [Act.put, sA, sB, sC, sD, sE, sF]
  refine tkN 41 hHeld ?_ (hQ := fun c b X h => hP c b _ _ X h)
  simp only [Act.put, sA, sB, sC, sD, sE, sF]
  refine tkN 42 hHeld ?_ (hQ := fun c b X h => hP c b _ _ X h)
  simp only [Act.put, sA, sB, sC, sD, sE, sF]
  refine tkN 43 hHeld ?_ (hQ := fun c b X h => hP c b _ _ X h)
  simp only [Act.put, sA, sB, sC, sD, sE, sF]
  refine tkY 44 (.bool false) hHeld ?_ ?_ (hQ := fun c b X h => hP c b _ _ X h)
  ·intro w9 hSw
   go_simp
  simp only [Act.put, sA, sB, sC, sD, sE, sF]
  refine tkY 45 (.bool false) hHeld ?_ ?_ (hQ := fun c b X h => hP c b _ _ X h)
  ·intro w9 hSw
   go_simp
  simp only [Act.put, sA, sB, sC, sD, sE, sF]
  refine wpAnyH_done (by kernel_rfl) ?_ _
  exact hK false _ HCV (fun h => by cases h) (fun _ => HOK.out)
 have HZ := hid (show 0 < m by omega)
 obtain ⟨p, hpm⟩ : ∃ p, m = p + 1 := ⟨m - 1, by omega⟩
 have hpg := List.getElem?_eq_getElem (show p < x.d.needs.length by have := HLT.out; omega)
 generalize x.d.needs[p]'_ = y at hpg
 have HPY := hid (needs_pair HBV.out hpg HAO.out)
 have HNY := hid (fun (X : World) (h : Hid (X = V0)) => (show X.cell? ⟨bk, o + p * 2, none⟩ = some (.string y.name) by rw [h.out]; exact HPY.out.1))
 have HRA := hid (show riseAt (x.d.needs.map (fun x : NeedD => x.name)) m = Op.bytesLess y.name.toList n.name.toList by rw [hpm]; exact riseAt_eq (by rw [List.getElem?_map, hpg]; rfl) (by rw [← hpm, List.getElem?_map, HJ.out]; rfl))
 have q1 : IntKind.i64.wrap ((m : Int) - 1) = (p : Int) := by rw [IntKind.wrap_i64]; omega
 have hpl : (p : Int) < (x.d.needs.length : Int) := by omega
 clear hm0 hpm hpg
 refine tkY 28 (.bool true) hHeld ?_ ?_ (hQ := fun c b X h => hP c b _ _ X h)
 ·intro w9 hSw
  go_simp
  exact HZ.out
 simp only [Act.put, sA, sB, sC, sD, sE, sF]
 refine tkY 29 (.bool true) hHeld ?_ ?_ (hQ := fun c b X h => hP c b _ _ X h)
 ·intro w9 hSw
  go_simp
 simp only [Act.put, sA, sB, sC, sD, sE, sF]
 refine tkY 30 (.pointer (some ⟨w.heap.size, 3, none⟩)) hHeld ?_ ?_ (hQ := fun c b X h => hP c b _ _ X h)
 ·intro w9 hSw
  go_simp
 simp only [Act.put, sA, sB, sC, sD, sE, sF]
 refine tkY 31 (.slice (some ⟨bk, o, none⟩) x.d.needs.length x.nc) hHeld ?_ ?_ (hQ := fun c b X h => hP c b _ _ X h)
 ·intro w9 hSw
  have hcc := HN3.out w9 hSw
  go_simp
 simp only [Act.put, sA, sB, sC, sD, sE, sF]
 refine tkY 32 (.int .i64 (m : Int)) hHeld ?_ ?_ (hQ := fun c b X h => hP c b _ _ X h)
 ·intro w9 hSw
  go_simp
 simp only [Act.put, sA, sB, sC, sD, sE, sF]
 refine tkY 33 (.int .i64 (p : Int)) hHeld ?_ ?_ (hQ := fun c b X h => hP c b _ _ X h)
 ·intro w9 hSw
  go_simp
 simp only [Act.put, sA, sB, sC, sD, sE, sF]
 refine tkY 34 (.pointer (some ⟨bk, o + p * 2, none⟩)) hHeld ?_ ?_ (hQ := fun c b X h => hP c b _ _ X h)
 ·intro w9 hSw
  go_simp
 simp only [Act.put, sA, sB, sC, sD, sE, sF]
 refine tkY 35 (.pointer (some ⟨bk, o + p * 2, none⟩)) hHeld ?_ ?_ (hQ := fun c b X h => hP c b _ _ X h)
 ·intro w9 hSw
  go_simp
 simp only [Act.put, sA, sB, sC, sD, sE, sF]
 refine tkY 36 (.string y.name) hHeld ?_ ?_ (hQ := fun c b X h => hP c b _ _ X h)
 ·intro w9 hSw
  have hcc := HNY.out w9 hSw
  go_simp
 simp only [Act.put, sA, sB, sC, sD, sE, sF]
 refine tkY 37 (.pointer (some ⟨w.heap.size, 3, none⟩)) hHeld ?_ ?_ (hQ := fun c b X h => hP c b _ _ X h)
 ·intro w9 hSw
  go_simp
 simp only [Act.put, sA, sB, sC, sD, sE, sF]
 refine tkY 38 (.slice (some ⟨bk, o, none⟩) x.d.needs.length x.nc) hHeld ?_ ?_ (hQ := fun c b X h => hP c b _ _ X h)
 ·intro w9 hSw
  have hcc := HN3.out w9 hSw
  go_simp
 simp only [Act.put, sA, sB, sC, sD, sE, sF]
 refine tkY 39 (.int .i64 (m : Int)) hHeld ?_ ?_ (hQ := fun c b X h => hP c b _ _ X h)
 ·intro w9 hSw
  go_simp
 simp only [Act.put, sA, sB, sC, sD, sE, sF]
 refine tkY 40 (.pointer (some ⟨bk, o + m * 2, none⟩)) hHeld ?_ ?_ (hQ := fun c b X h => hP c b _ _ X h)
 ·intro w9 hSw
  go_simp
 simp only [Act.put, sA, sB, sC, sD, sE, sF]
 refine tkY 41 (.pointer (some ⟨bk, o + m * 2, none⟩)) hHeld ?_ ?_ (hQ := fun c b X h => hP c b _ _ X h)
 ·intro w9 hSw
  go_simp
 simp only [Act.put, sA, sB, sC, sD, sE, sF]
 refine tkY 42 (.string n.name) hHeld ?_ ?_ (hQ := fun c b X h => hP c b _ _ X h)
 ·intro w9 hSw
  have hcc := HNN.out w9 hSw
  go_simp
 simp only [Act.put, sA, sB, sC, sD, sE, sF]
 cases hls : Op.bytesLess y.name.toList n.name.toList
 ·skip
  have HX := hid (show ¬ needOK x.d.needs m from (fun h => by have e := h.1; rw [HRA.out, hls] at e; cases e))
  refine tkY 43 (.bool true) hHeld ?_ ?_ (hQ := fun c b X h => hP c b _ _ X h)
  ·intro w9 hSw
   go_simp
  simp only [Act.put, sA, sB, sC, sD, sE, sF]
  refine tkY 44 (.bool true) hHeld ?_ ?_ (hQ := fun c b X h => hP c b _ _ X h)
  ·intro w9 hSw
   go_simp
  simp only [Act.put, sA, sB, sC, sD, sE, sF]
  refine tkY 45 (.bool true) hHeld ?_ ?_ (hQ := fun c b X h => hP c b _ _ X h)
  ·intro w9 hSw
   go_simp
  simp only [Act.put, sA, sB, sC, sD, sE, sF]
  refine wpAnyH_done (by kernel_rfl) ?_ _
  clear HC hls q1 hpl
  have HC := HCV
  exact hK true _ HC (fun _ => HX.out) (fun h => by cases h)
 have HOK := hid (show needOK x.d.needs m from ⟨by rw [HRA.out]; exact hls, fun y hy => by rw [HJ.out] at hy; cases hy; exact HRN.out⟩)
 refine tkY 43 (.bool false) hHeld ?_ ?_ (hQ := fun c b X h => hP c b _ _ X h)
 ·intro w9 hSw
  go_simp
 simp only [Act.put, sA, sB, sC, sD, sE, sF]
 refine tkY 44 (.bool false) hHeld ?_ ?_ (hQ := fun c b X h => hP c b _ _ X h)
 ·intro w9 hSw
  go_simp
 simp only [Act.put, sA, sB, sC, sD, sE, sF]
 refine tkY 45 (.bool false) hHeld ?_ ?_ (hQ := fun c b X h => hP c b _ _ X h)
 ·intro w9 hSw
  go_simp
 simp only [Act.put, sA, sB, sC, sD, sE, sF]
 clear hls q1 hpl
 refine wpAnyH_done (by kernel_rfl) ?_ _
 exact hK false _ HCV (fun h => by cases h) (fun _ => HOK.out)
set_option maxHeartbeats 8000000 in
set_option maxRecDepth 100000 in
theorem region12_any {x : DEl} {w : World} {m : Nat} {Q : Exit → Act → World → Prop} {s : ByteArray} {a : Addr} {u0 u2 u3 u4 u6 u7 u8 u9 u10 u11 u12 u13 u14 u15 u16 u17 u18 u19 u20 u21 u22 u23 u24 u25 u26 u27 u28 u29 u30 u31 u32 u33 u34 u35 u36 u37 u38 u39 u40 u41 u42 u43 u44 u45 u46 u47 u48 u49 u50 u51 u52 u53 u54 u55 u56 u57 u58 u59 u60 u61 u62 u63 u64 u65 u66 u67 u68 u69 u70 u71 u72 u73 u74 u75 u76 u77 u78 u79 u80 u81 u82 u83 u84 u85 u86 u87 u88 u89 u90 u91 u92 u93 u94 u95 u96 u97 u98 u99 u100 u101 u102 u103 u104 u105 u106 u107 u108 u109 u110 u111 u112 u139 u140 u141 u142 u143 u144 u145 u146 u147 u148 u149 u150 u151 u152 u153 u154 u155 u156 u157 u158 u159 u160 u161 u162 u163 u164 u165 u166 u167 u168 u169 u170 u171 u172 u173 u174 u175 u176 u177 u178 u179 u180 u181 u182 u183 u184 u185 u186 u187 u188 u189 u190 u191 u192 u193 u194 u195 u196 u197 u198 u199 u200 u201 u202 u203 u204 u205 u206 u207 : Value}
  (hP : ∀ c b d v X, Q (.panic c) (Act.put b d v) X → Q (.panic c) b X) (hK : ∀ {u113 u114 u115 u116 u117 u118 u119 u120 u121 u122 u123 u124 u125 u126 u127 u128 u129 u130 u131 u132 u133 u134 u135 u136 u137 : Value} (b : Bool) (X : World), Hid (RrS x w X) → (b = true → ¬ traitOK x.d.traits m) → (b = false → traitOK x.d.traits m) → Q .normal ⟨#[u0, .pointer (some ⟨w.heap.size, 0, none⟩), u2, u3, u4, .int .i64 (m : Int), u6, u7, u8, u9, u10, u11, u12, u13, u14, u15, u16, u17, u18, u19, u20, u21, u22, u23, u24, u25, u26, u27, u28, u29, u30, u31, u32, u33, u34, u35, u36, u37, u38, u39, u40, u41, u42, u43, u44, u45, u46, u47, u48, u49, u50, u51, u52, u53, u54, u55, u56, u57, u58, u59, u60, u61, u62, u63, u64, u65, u66, u67, u68, u69, u70, u71, u72, u73, u74, u75, u76, u77, u78, u79, u80, u81, u82, u83, u84, u85, u86, u87, u88, u89, u90, u91, u92, u93, u94, u95, u96, u97, u98, u99, u100, u101, u102, u103, u104, u105, u106, u107, u108, u109, u110, u111, u112, u113, u114, u115, u116, u117, u118, u119, u120, u121, u122, u123, u124, u125, u126, u127, u128, u129, u130, u131, u132, u133, u134, u135, u136, u137, .bool b, u139, u140, u141, u142, u143, u144, u145, u146, u147, u148, u149, u150, u151, u152, u153, u154, u155, u156, u157, u158, u159, u160, u161, u162, u163, u164, u165, u166, u167, u168, u169, u170, u171, u172, u173, u174, u175, u176, u177, u178, u179, u180, u181, u182, u183, u184, u185, u186, u187, u188, u189, u190, u191, u192, u193, u194, u195, u196, u197, u198, u199, u200, u201, u202, u203, u204, u205, u206, u207], []⟩ X)
  (HD : Hid (DefOK w x)) (HYA : Hid (x.ko = some a)) (HJ : Hid (x.d.traits[m]? = some s)) (HLT : Hid (m < x.d.traits.length)) (hlti : (m : Int) < (x.d.traits.length : Int)) (hti : (x.d.traits.length : Int) ≤ 1048576) (HNT : Hid (nthB x.d.traits m = s)) (wr : World) (HC : Hid (RrS x w wr)) {u113 u114 u115 u116 u117 u118 u119 u120 u121 u122 u123 u124 u125 u126 u127 u128 u129 u130 u131 u132 u133 u134 u135 u136 u137 u138 : Value} : Code.wp Tryz.prog reg12 Q ⟨#[u0, .pointer (some ⟨w.heap.size, 0, none⟩), u2, u3, u4, .int .i64 (m : Int), u6, u7, u8, u9, u10, u11, u12, u13, u14, u15, u16, u17, u18, u19, u20, u21, u22, u23, u24, u25, u26, u27, u28, u29, u30, u31, u32, u33, u34, u35, u36, u37, u38, u39, u40, u41, u42, u43, u44, u45, u46, u47, u48, u49, u50, u51, u52, u53, u54, u55, u56, u57, u58, u59, u60, u61, u62, u63, u64, u65, u66, u67, u68, u69, u70, u71, u72, u73, u74, u75, u76, u77, u78, u79, u80, u81, u82, u83, u84, u85, u86, u87, u88, u89, u90, u91, u92, u93, u94, u95, u96, u97, u98, u99, u100, u101, u102, u103, u104, u105, u106, u107, u108, u109, u110, u111, u112, u113, u114, u115, u116, u117, u118, u119, u120, u121, u122, u123, u124, u125, u126, u127, u128, u129, u130, u131, u132, u133, u134, u135, u136, u137, u138, u139, u140, u141, u142, u143, u144, u145, u146, u147, u148, u149, u150, u151, u152, u153, u154, u155, u156, u157, u158, u159, u160, u161, u162, u163, u164, u165, u166, u167, u168, u169, u170, u171, u172, u173, u174, u175, u176, u177, u178, u179, u180, u181, u182, u183, u184, u185, u186, u187, u188, u189, u190, u191, u192, u193, u194, u195, u196, u197, u198, u199, u200, u201, u202, u203, u204, u205, u206, u207], []⟩ wr := by
 conv => arg 2; whnf
 refine wp_region_held_drew (S := fun w' => Hid (RrS x w w')) (by kernel_rfl) ⟨HC.out.t0, HC.out.below.drew⟩ (fun hHeld => ?_)
 generalize wr.drew = V0 at hHeld ⊢
 have HK6 := hid (fun (X : World) (h : Hid (RrS x w X)) => (show X.cell? ⟨w.heap.size, 6, none⟩ = some (.slice (some a) x.d.traits.length x.kc) by have := (dcells7 h.out.t0).2.2.2.2.2.2.1; rw [HYA.out] at this; exact this))
 have HTS := hid (fun (X : World) (h : Hid (RrS x w X)) => (show X.cell? (a.add m) = some (.string s) from strs_at (by have := HD.out.traits.below h.out.below; rw [HYA.out] at this; exact this) HJ.out))
 refine tkY 1 (.pointer (some ⟨w.heap.size, 6, none⟩)) hHeld ?_ ?_ (hQ := fun c b X h => hP c b _ _ X h)
 ·intro w9 hSw
  go_simp
 simp only [Act.put, sA, sB, sC, sD, sE, sF]
 refine tkY 2 (.slice (some a) x.d.traits.length x.kc) hHeld ?_ ?_ (hQ := fun c b X h => hP c b _ _ X h)
 ·intro w9 hSw
  have hcc := HK6.out w9 hSw
  go_simp
 simp only [Act.put, sA, sB, sC, sD, sE, sF]
 refine tkY 3 (.int .i64 (m : Int)) hHeld ?_ ?_ (hQ := fun c b X h => hP c b _ _ X h)
 ·intro w9 hSw
  go_simp
 simp only [Act.put, sA, sB, sC, sD, sE, sF]
 refine tkY 4 (.pointer (some (a.add m))) hHeld ?_ ?_ (hQ := fun c b X h => hP c b _ _ X h)
 ·intro w9 hSw
  go_simp
 simp only [Act.put, sA, sB, sC, sD, sE, sF]
 refine tkY 5 (.string s) hHeld ?_ ?_ (hQ := fun c b X h => hP c b _ _ X h)
 ·intro w9 hSw
  have hcc := HTS.out w9 hSw
  go_simp
 simp only [Act.put, sA, sB, sC, sD, sE, sF]
 refine wpAnyH_ready (rs := [0]) (by kernel_rfl) (by simp) ?_
 refine AllReadyH.cons rfl (fun K hK => ?_) AllReadyH.nil
 go_simp
 go_at_call 31
 with_reducible refine (RTraits_any V0).mono ?_
 rintro e v1 ⟨qo, qc, rfl, hs, -, hb⟩
 try dsimp only
 have HS1 := hid (strs_keeps hs above_to)
 refine hK.out _ _ (show Hid (RrS x w v1) from hHeld.out.moved hb) (fun h1 => ?_)
 clear hK K hs hb hHeld
 try simp only [Act.put, sA, sC, sD, sE, sF]
 refine wpAnyH_ready (rs := [6]) (by kernel_rfl) (by simp) ?_
 refine AllReadyH.cons rfl (fun K hK => ?_) AllReadyH.nil
 go_simp
 go_at_call 33
 with_reducible refine (RHas_any qo traitsL qc s (by decide) v1 HS1.out).mono ?_
 rintro e v2 ⟨rfl, rfl⟩
 try dsimp only
 refine hK.out _ _ h1 (fun hHeld => ?_)
 clear hK K h1
 try simp only [Act.put, sA, sB, sC, sD, sE, sF]
 cases hin : isIn traitsL s
 ·skip
  have HX := hid (show ¬ traitOK x.d.traits m from (fun h => by have e := h.2; rw [HNT.out, ← isIn_traits, hin] at e; cases e))
  clear hin
  refine tkY 7 (.bool true) hHeld ?_ ?_ (hQ := fun c b X h => hP c b _ _ X h)
  ·intro w9 hSw
   go_simp
  simp only [Act.put, sA, sB, sC, sD, sE, sF]
  refine tkY 8 (.bool true) hHeld ?_ ?_ (hQ := fun c b X h => hP c b _ _ X h)
  ·intro w9 hSw
   go_simp
  simp only [Act.put, sA, sB, sC, sD, sE, sF]
  refine tkN 9 hHeld ?_ (hQ := fun c b X h => hP c b _ _ X h)
  simp only [Act.put, sA, sB, sC, sD, sE, sF]
  refine tkN 10 hHeld ?_ (hQ := fun c b X h => hP c b _ _ X h)
  simp only [Act.put, sA, sB, sC, sD, sE, sF]
  refine tkN 11 hHeld ?_ (hQ := fun c b X h => hP c b _ _ X h)
  simp only [Act.put, sA, sB, sC, sD, sE, sF]
  refine tkN 12 hHeld ?_ (hQ := fun c b X h => hP c b _ _ X h)
  simp only [Act.put, sA, sB, sC, sD, sE, sF]
  refine tkN 13 hHeld ?_ (hQ := fun c b X h => hP c b _ _ X h)
  simp only [Act.put, sA, sB, sC, sD, sE, sF]
  refine tkN 14 hHeld ?_ (hQ := fun c b X h => hP c b _ _ X h)
  simp only [Act.put, sA, sB, sC, sD, sE, sF]
  refine tkN 15 hHeld ?_ (hQ := fun c b X h => hP c b _ _ X h)
  simp only [Act.put, sA, sB, sC, sD, sE, sF]
  refine tkN 16 hHeld ?_ (hQ := fun c b X h => hP c b _ _ X h)
  simp only [Act.put, sA, sB, sC, sD, sE, sF]
  refine tkN 17 hHeld ?_ (hQ := fun c b X h => hP c b _ _ X h)
  simp only [Act.put, sA, sB, sC, sD, sE, sF]
  refine tkN 18 hHeld ?_ (hQ := fun c b X h => hP c b _ _ X h)
  simp only [Act.put, sA, sB, sC, sD, sE, sF]
  refine tkN 19 hHeld ?_ (hQ := fun c b X h => hP c b _ _ X h)
  simp only [Act.put, sA, sB, sC, sD, sE, sF]
  refine tkN 20 hHeld ?_ (hQ := fun c b X h => hP c b _ _ X h)
  simp only [Act.put, sA, sB, sC, sD, sE, sF]
  refine tkN 21 hHeld ?_ (hQ := fun c b X h => hP c b _ _ X h)
  simp only [Act.put, sA, sB, sC, sD, sE, sF]
  refine tkN 22 hHeld ?_ (hQ := fun c b X h => hP c b _ _ X h)
  simp only [Act.put, sA, sB, sC, sD, sE, sF]
  refine tkN 23 hHeld ?_ (hQ := fun c b X h => hP c b _ _ X h)
  simp only [Act.put, sA, sB, sC, sD, sE, sF]
  refine tkN 24 hHeld ?_ (hQ := fun c b X h => hP c b _ _ X h)
  simp only [Act.put, sA, sB, sC, sD, sE, sF]
  refine tkY 25 (.bool true) hHeld ?_ ?_ (hQ := fun c b X h => hP c b _ _ X h)
  ·intro w9 hSw
   go_simp
  simp only [Act.put, sA, sB, sC, sD, sE, sF]
  refine wpAnyH_done (by kernel_rfl) ?_ _
  clear HC
  have HC := hHeld
  exact hK true _ HC (fun _ => HX.out) (fun h => by cases h)
 have HIN := hid (show isIn allTraitsL s = true by rw [← isIn_traits]; exact hin)
 clear hin
 refine tkY 7 (.bool false) hHeld ?_ ?_ (hQ := fun c b X h => hP c b _ _ X h)
 ·intro w9 hSw
  go_simp
 simp only [Act.put, sA, sB, sC, sD, sE, sF]
 refine tkY 8 (.bool false) hHeld ?_ ?_ (hQ := fun c b X h => hP c b _ _ X h)
 ·intro w9 hSw
  go_simp
 simp only [Act.put, sA, sB, sC, sD, sE, sF]
 refine tkY 9 (.int .i64 (m : Int)) hHeld ?_ ?_ (hQ := fun c b X h => hP c b _ _ X h)
 ·intro w9 hSw
  go_simp
 simp only [Act.put, sA, sB, sC, sD, sE, sF]
 by_cases hm0 : m = 0
 ·have HZ := hid hm0
  have HOK := hid (show traitOK x.d.traits m from ⟨by rw [hm0]; rfl, by rw [HNT.out]; exact HIN.out⟩)
  clear hm0
  refine tkY 10 (.bool false) hHeld ?_ ?_ (hQ := fun c b X h => hP c b _ _ X h)
  ·intro w9 hSw
   go_simp
   exact HZ.out
  simp only [Act.put, sA, sB, sC, sD, sE, sF]
  refine tkY 11 (.bool false) hHeld ?_ ?_ (hQ := fun c b X h => hP c b _ _ X h)
  ·intro w9 hSw
   go_simp
  simp only [Act.put, sA, sB, sC, sD, sE, sF]
  refine tkN 12 hHeld ?_ (hQ := fun c b X h => hP c b _ _ X h)
  simp only [Act.put, sA, sB, sC, sD, sE, sF]
  refine tkN 13 hHeld ?_ (hQ := fun c b X h => hP c b _ _ X h)
  simp only [Act.put, sA, sB, sC, sD, sE, sF]
  refine tkN 14 hHeld ?_ (hQ := fun c b X h => hP c b _ _ X h)
  simp only [Act.put, sA, sB, sC, sD, sE, sF]
  refine tkN 15 hHeld ?_ (hQ := fun c b X h => hP c b _ _ X h)
  simp only [Act.put, sA, sB, sC, sD, sE, sF]
  refine tkN 16 hHeld ?_ (hQ := fun c b X h => hP c b _ _ X h)
  simp only [Act.put, sA, sB, sC, sD, sE, sF]
  refine tkN 17 hHeld ?_ (hQ := fun c b X h => hP c b _ _ X h)
  simp only [Act.put, sA, sB, sC, sD, sE, sF]
  refine tkN 18 hHeld ?_ (hQ := fun c b X h => hP c b _ _ X h)
  simp only [Act.put, sA, sB, sC, sD, sE, sF]
  refine tkN 19 hHeld ?_ (hQ := fun c b X h => hP c b _ _ X h)
  simp only [Act.put, sA, sB, sC, sD, sE, sF]
  refine tkN 20 hHeld ?_ (hQ := fun c b X h => hP c b _ _ X h)
  simp only [Act.put, sA, sB, sC, sD, sE, sF]
  refine tkN 21 hHeld ?_ (hQ := fun c b X h => hP c b _ _ X h)
  simp only [Act.put, sA, sB, sC, sD, sE, sF]
  refine tkN 22 hHeld ?_ (hQ := fun c b X h => hP c b _ _ X h)
  simp only [Act.put, sA, sB, sC, sD, sE, sF]
  refine tkN 23 hHeld ?_ (hQ := fun c b X h => hP c b _ _ X h)
  simp only [Act.put, sA, sB, sC, sD, sE, sF]
  refine tkY 24 (.bool false) hHeld ?_ ?_ (hQ := fun c b X h => hP c b _ _ X h)
  ·intro w9 hSw
   go_simp
  simp only [Act.put, sA, sB, sC, sD, sE, sF]
  refine tkY 25 (.bool false) hHeld ?_ ?_ (hQ := fun c b X h => hP c b _ _ X h)
  ·intro w9 hSw
   go_simp
  simp only [Act.put, sA, sB, sC, sD, sE, sF]
  refine wpAnyH_done (by kernel_rfl) ?_ _
  exact hK false _ hHeld (fun h => by cases h) (fun _ => HOK.out)
 have HZ := hid (show 0 < m by omega)
 obtain ⟨p, hpm⟩ : ∃ p, m = p + 1 := ⟨m - 1, by omega⟩
 have hpg := List.getElem?_eq_getElem (show p < x.d.traits.length by have := HLT.out; omega)
 generalize x.d.traits[p]'_ = y at hpg
 have HNY := hid (fun (X : World) (h : Hid (RrS x w X)) => (show X.cell? (a.add p) = some (.string y) from strs_at (by have := HD.out.traits.below h.out.below; rw [HYA.out] at this; exact this) hpg))
 have HRA := hid (show riseAt x.d.traits m = Op.bytesLess y.toList s.toList by rw [hpm]; exact riseAt_eq hpg (by rw [← hpm]; exact HJ.out))
 have q1 : IntKind.i64.wrap ((m : Int) - 1) = (p : Int) := by rw [IntKind.wrap_i64]; omega
 have hpl : (p : Int) < (x.d.traits.length : Int) := by omega
 clear hm0 hpm hpg
 refine tkY 10 (.bool true) hHeld ?_ ?_ (hQ := fun c b X h => hP c b _ _ X h)
 ·intro w9 hSw
  go_simp
  exact HZ.out
 simp only [Act.put, sA, sB, sC, sD, sE, sF]
 refine tkY 11 (.bool true) hHeld ?_ ?_ (hQ := fun c b X h => hP c b _ _ X h)
 ·intro w9 hSw
  go_simp
 simp only [Act.put, sA, sB, sC, sD, sE, sF]
 refine tkY 12 (.pointer (some ⟨w.heap.size, 6, none⟩)) hHeld ?_ ?_ (hQ := fun c b X h => hP c b _ _ X h)
 ·intro w9 hSw
  go_simp
 simp only [Act.put, sA, sB, sC, sD, sE, sF]
 refine tkY 13 (.slice (some a) x.d.traits.length x.kc) hHeld ?_ ?_ (hQ := fun c b X h => hP c b _ _ X h)
 ·intro w9 hSw
  have hcc := HK6.out w9 hSw
  go_simp
 simp only [Act.put, sA, sB, sC, sD, sE, sF]
 refine tkY 14 (.int .i64 (m : Int)) hHeld ?_ ?_ (hQ := fun c b X h => hP c b _ _ X h)
 ·intro w9 hSw
  go_simp
 simp only [Act.put, sA, sB, sC, sD, sE, sF]
 refine tkY 15 (.int .i64 (p : Int)) hHeld ?_ ?_ (hQ := fun c b X h => hP c b _ _ X h)
 ·intro w9 hSw
  go_simp
 simp only [Act.put, sA, sB, sC, sD, sE, sF]
 refine tkY 16 (.pointer (some (a.add p))) hHeld ?_ ?_ (hQ := fun c b X h => hP c b _ _ X h)
 ·intro w9 hSw
  go_simp
 simp only [Act.put, sA, sB, sC, sD, sE, sF]
 refine tkY 17 (.string y) hHeld ?_ ?_ (hQ := fun c b X h => hP c b _ _ X h)
 ·intro w9 hSw
  have hcc := HNY.out w9 hSw
  go_simp
 simp only [Act.put, sA, sB, sC, sD, sE, sF]
 refine tkY 18 (.pointer (some ⟨w.heap.size, 6, none⟩)) hHeld ?_ ?_ (hQ := fun c b X h => hP c b _ _ X h)
 ·intro w9 hSw
  go_simp
 simp only [Act.put, sA, sB, sC, sD, sE, sF]
 refine tkY 19 (.slice (some a) x.d.traits.length x.kc) hHeld ?_ ?_ (hQ := fun c b X h => hP c b _ _ X h)
 ·intro w9 hSw
  have hcc := HK6.out w9 hSw
  go_simp
 simp only [Act.put, sA, sB, sC, sD, sE, sF]
 refine tkY 20 (.int .i64 (m : Int)) hHeld ?_ ?_ (hQ := fun c b X h => hP c b _ _ X h)
 ·intro w9 hSw
  go_simp
 simp only [Act.put, sA, sB, sC, sD, sE, sF]
 refine tkY 21 (.pointer (some (a.add m))) hHeld ?_ ?_ (hQ := fun c b X h => hP c b _ _ X h)
 ·intro w9 hSw
  go_simp
 simp only [Act.put, sA, sB, sC, sD, sE, sF]
 refine tkY 22 (.string s) hHeld ?_ ?_ (hQ := fun c b X h => hP c b _ _ X h)
 ·intro w9 hSw
  have hcc := HTS.out w9 hSw
  go_simp
 simp only [Act.put, sA, sB, sC, sD, sE, sF]
 cases hls : Op.bytesLess y.toList s.toList
 ·skip
  have HX := hid (show ¬ traitOK x.d.traits m from (fun h => by have e := h.1; rw [HRA.out, hls] at e; cases e))
  refine tkY 23 (.bool true) hHeld ?_ ?_ (hQ := fun c b X h => hP c b _ _ X h)
  ·intro w9 hSw
   go_simp
  simp only [Act.put, sA, sB, sC, sD, sE, sF]
  refine tkY 24 (.bool true) hHeld ?_ ?_ (hQ := fun c b X h => hP c b _ _ X h)
  ·intro w9 hSw
   go_simp
  simp only [Act.put, sA, sB, sC, sD, sE, sF]
  refine tkY 25 (.bool true) hHeld ?_ ?_ (hQ := fun c b X h => hP c b _ _ X h)
  ·intro w9 hSw
   go_simp
  simp only [Act.put, sA, sB, sC, sD, sE, sF]
  refine wpAnyH_done (by kernel_rfl) ?_ _
  clear HC hls q1 hpl
  have HC := hHeld
  exact hK true _ HC (fun _ => HX.out) (fun h => by cases h)
 have HOK := hid (show traitOK x.d.traits m from ⟨by rw [HRA.out]; exact hls, by rw [HNT.out]; exact HIN.out⟩)
 refine tkY 23 (.bool false) hHeld ?_ ?_ (hQ := fun c b X h => hP c b _ _ X h)
 ·intro w9 hSw
  go_simp
 simp only [Act.put, sA, sB, sC, sD, sE, sF]
 refine tkY 24 (.bool false) hHeld ?_ ?_ (hQ := fun c b X h => hP c b _ _ X h)
 ·intro w9 hSw
  go_simp
 simp only [Act.put, sA, sB, sC, sD, sE, sF]
 refine tkY 25 (.bool false) hHeld ?_ ?_ (hQ := fun c b X h => hP c b _ _ X h)
 ·intro w9 hSw
  go_simp
 simp only [Act.put, sA, sB, sC, sD, sE, sF]
 clear hls q1 hpl
 refine wpAnyH_done (by kernel_rfl) ?_ _
 exact hK false _ hHeld (fun h => by cases h) (fun _ => HOK.out)
end Go.Proofs.YtgimdkgjfenafaaGreatDoor
