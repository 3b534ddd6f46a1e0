import Derived.Test.YtgimdkgjfenafaaGreatDoorTJDxLB
import Derived.Test.YtgimdkgjfenafaaGreatDoorG31
import Derived.Test.YtgimdkgjfenafaaGreatDoorG44
import Derived.BigQuiet
import Derived.Test.YtgimdkgjfenafaaGreatDoorG34
import Derived.Deep.Upon
import Derived.Test.YtgimdkgjfenafaaGreatDoorG21
import Derived.Lib.IndexMore
namespace Go.Proofs.YtgimdkgjfenafaaGreatDoor
open Go.RowKit
open Lib (hid)
def allL : List DiaD → List DiaD → List DiaD
 | [], xs => xs
 | c :: cs, [] => c :: cs
 | c :: cs, x :: xs => if Op.bytesLess c.name.toList x.name.toList then c :: allL cs (x :: xs) else x :: allL (c :: cs) xs
termination_by a b => a.length + b.length
theorem all_nil (l : List DiaD) : allL l [] = l := by cases l <;> rw [allL]
structure AllS (B N : Nat) (cs xs : List DiaD) (W1 : World) (i k : Nat) (vo : Option Addr) (cp : Nat) (ys : List XEl) (wr : World) : Prop where
 below : Below W1.heap.size W1 wr
 row : wr.ownsRow W1.heap.size 87 3 (.slice vo ys.length cp) ys.length (ys.flatMap XEl.cells)
 so : ys.map XEl.d ++ allL (cs.drop i) (xs.drop k) = allL cs xs
 ok : ∀ y ∈ ys, DiaOK (pin B N none W1) y
 len : ys.length = i + k
theorem AllS.next {B N : Nat} {cs xs : List DiaD} {W1 : World} {i k i' k' : Nat} {vo vo' : Option Addr} {cp cp' : Nat} {ys : List XEl} {wr w5 : World} {y : XEl} (h : AllS B N cs xs W1 i k vo cp ys wr) (hy : DiaOK (pin B N none W1) y)
  (hb : Below W1.heap.size W1 w5) (hown : w5.ownsRow W1.heap.size 87 3 (.slice vo' (ys.length + 1) cp') (ys.length + 1) (ys.flatMap XEl.cells ++ [.string y.name, .slice y.yo y.types.length y.yc, .slice y.po y.ops.length y.pc]))
  (hso : allL (cs.drop i) (xs.drop k) = y.d :: allL (cs.drop i') (xs.drop k')) (hl : i' + k' = i + k + 1) : AllS B N cs xs W1 i' k' vo' cp' (ys ++ [y]) w5 := by
 refine ⟨hb, ?_, ?_, fun z hz => ?_, by rw [List.length_append, h.len, List.length_singleton]; omega⟩
 ·rw [List.length_append, List.flatMap_append, List.flatMap_singleton]
  exact hown
 ·rw [← h.so, hso, List.map_append, List.append_assoc]
  rfl
 ·rcases List.mem_append.1 hz with hz | hz
  ·exact h.ok z hz
  ·obtain rfl := List.mem_singleton.1 hz
   exact hy
def opsFind (pre nm : ByteArray) : List DefD → Option DefD
 | [] => none
 | o :: os => if (((pre ++ ⟨#[46]⟩) ++ o.name).toList == nm.toList) = true then some o else opsFind pre nm os
def allFind (nm : ByteArray) : List DiaD → Option DefD
 | [] => none
 | x :: xs => match opsFind x.name nm x.ops with
  | some o => some o
  | none => allFind nm xs
structure NameSmall (x : DiaD) : Prop where
 zn : x.name.size ≤ 1048576
 lo : x.ops.length ≤ 1048576
 each : ∀ o ∈ x.ops, o.name.size ≤ 1048576
theorem all_mem {z : DiaD} (a b : List DiaD) (h : z ∈ allL a b) : z ∈ a ∨ z ∈ b := by
 induction a, b using allL.induct with
 | case1 xs => rw [allL] at h; exact .inr h
 | case2 c cs => rw [allL] at h; exact .inl h
 | case3 c cs x xs hc ih =>
  rw [allL, if_pos hc] at h
  rcases List.mem_cons.1 h with h | h
  ·exact .inl (List.mem_cons.2 (.inl h))
  ·exact (ih h).imp (fun h => List.mem_cons.2 (.inr h)) id
 | case4 c cs x xs hc ih =>
  rw [allL, if_neg hc] at h
  rcases List.mem_cons.1 h with h | h
  ·exact .inr (List.mem_cons.2 (.inl h))
  ·exact (ih h).imp id (fun h => List.mem_cons.2 (.inr h))
def nameSmallB (x : DiaD) : Bool := decide (x.name.size ≤ 1048576) && decide (x.ops.length ≤ 1048576) && x.ops.all fun o => decide (o.name.size ≤ 1048576)
theorem nameSmall_of {x : DiaD} (h : nameSmallB x = true) : NameSmall x := by
 unfold nameSmallB at h
 simp only [Bool.and_eq_true, decide_eq_true_eq, List.all_eq_true] at h
 exact ⟨h.1.1, h.1.2, h.2⟩
theorem core_nameSmall : ∀ x ∈ coreD, NameSmall x := by
 have h : (coreD.all nameSmallB) = true := by decide
 exact fun x hx => nameSmall_of (List.all_eq_true.1 h x hx)
theorem row_at {w : World} {bk o : Nat} {cs : List Value} (h : ∀ j v, cs[j]? = some v → w.cell? ⟨bk, o + j, none⟩ = some v) : ∀ j v, cs[j]? = some v → w.cell? ((⟨bk, o, none⟩ : Addr).add j) = some v := fun j v hj => by
 rw [show (⟨bk, o, none⟩ : Addr).add j = ⟨bk, o + j, none⟩ by unfold Addr.add; split <;> simp_all]
 exact h j v hj
def gtB (x s : ByteArray) : Bool := !Op.bytesLess x.toList s.toList && !(x.toList == s.toList)
def atR (out : List ByteArray) (s : ByteArray) : Nat → Nat
 | 0 => 0
 | n + 1 => if gtB (nthB out n) s = true then atR out s n else n + 1
def insR (out : List ByteArray) (s : ByteArray) : List ByteArray := (out.take (atR out s out.length) ++ [s]) ++ out.drop (atR out s out.length)
def namesOf (x : DiaD) : List ByteArray := x.ops.map fun o => (x.name ++ ⟨#[46]⟩) ++ o.name
theorem atR_le (out : List ByteArray) (s : ByteArray) : ∀ n, atR out s n ≤ n
 | 0 => Nat.le_refl _
 | n + 1 => by
  rw [atR]
  split
  ·have := atR_le out s n; omega
  ·exact Nat.le_refl _
theorem insR_len (out : List ByteArray) (s : ByteArray) : (insR out s).length = out.length + 1 := by
 have := atR_le out s out.length
 unfold insR
 simp only [List.length_append, List.length_take, List.length_drop, List.length_singleton]
 omega
theorem fold_len (l : List ByteArray) : ∀ out : List ByteArray, (l.foldl insR out).length = out.length + l.length := by
 induction l with
 | nil => intro out; rfl
 | cons s l ih => intro out; rw [List.foldl_cons, ih, insR_len, List.length_cons]; omega
structure NmS (W2 : World) (L : List ByteArray) (vo : Option Addr) (c : Nat) (outs : List ByteArray) (wr : World) : Prop where
 below : Below W2.heap.size W2 wr
 row : RowIs wr vo outs.length (outs.map .string)
 shape : (vo = none ∧ outs = [] ∧ c = 0) ∨ ∃ bk o, vo = some ⟨bk, o, none⟩
 cap : outs.length ≤ c
 cmax : c ≤ 9223372036854775807
 so : outs = L.foldl insR []
theorem NmS.on {W2 : World} {L : List ByteArray} {vo : Option Addr} {c : Nat} {outs : List ByteArray} {w w' : World} (h : NmS W2 L vo c outs w) (hb : Below w.heap.size w w') : NmS W2 L vo c outs w' :=
 ⟨h.below.trans (hb.mono h.below.size), RowIs.below h.row hb, h.shape, h.cap, h.cmax, h.so⟩
end Go.Proofs.YtgimdkgjfenafaaGreatDoor

namespace Go.Proofs.YtgimdkgjfenafaaGreatDoor
open Go.RowKit
open Lib (hid)
theorem less_cons (a b : UInt8) (x y : List UInt8) : Op.bytesLess (a :: x) (b :: y) = true ↔ a < b ∨ (a = b ∧ Op.bytesLess x y = true) := by
 rw [Op.bytesLess, Bool.or_eq_true, Bool.and_eq_true, decide_eq_true_iff, beq_iff_eq]
theorem u8_trans {a b c : UInt8} (h : a < b) (k : b < c) : a < c := by
 have h1 := UInt8.lt_iff_toNat_lt.1 h
 have h2 := UInt8.lt_iff_toNat_lt.1 k
 exact UInt8.lt_iff_toNat_lt.2 (by omega)
theorem less_trans : ∀ {a b c : List UInt8}, Op.bytesLess a b = true → Op.bytesLess b c = true → Op.bytesLess a c = true
 | _, [], _, h, _ => by rw [Op.bytesLess.eq_def] at h; simp at h
 | _, _ :: _, [], _, h => by rw [Op.bytesLess] at h; cases h
 | [], _ :: _, _ :: _, _, _ => by rw [Op.bytesLess]
 | a :: x, b :: y, c :: z, h, k => by
  rw [less_cons] at h k ⊢
  rcases h with h | ⟨rfl, h⟩
  ·rcases k with k | ⟨rfl, k⟩
   ·exact .inl (u8_trans h k)
   ·exact .inl h
  ·rcases k with k | ⟨rfl, k⟩
   ·exact .inl k
   ·exact .inr ⟨rfl, less_trans h k⟩
theorem less_irrefl : ∀ a : List UInt8, ¬ Op.bytesLess a a = true
 | [], h => by rw [Op.bytesLess.eq_def] at h; simp at h
 | a :: x, h => by
  rcases (less_cons a a x x).1 h with h | ⟨_, h⟩
  ·have := UInt8.lt_iff_toNat_lt.1 h
   omega
  ·exact less_irrefl x h
theorem rise_lt {ns : List ByteArray} (h : risingL ns = true) (i : Nat) : ∀ j : Nat, i < j → j < ns.length → Op.bytesLess (nthB ns i).toList (nthB ns j).toList = true := by
 have one : ∀ k, k + 1 < ns.length → Op.bytesLess (nthB ns k).toList (nthB ns (k + 1)).toList = true := fun k hk => by
  have := List.all_eq_true.1 h (k + 1) (List.mem_range.2 hk)
  unfold riseAt at this
  simpa using this
 intro j hij hj
 induction j with
 | zero => omega
 | succ j ih =>
  rcases Nat.lt_or_ge i j with h1 | h1
  ·exact less_trans (ih h1 (by omega)) (one j hj)
  ·obtain rfl : i = j := by omega
   exact one i hj
theorem rise_nodup {ns : List ByteArray} (h : risingL ns = true) : ns.Nodup :=
 List.pairwise_iff_getElem.2 fun i j hi hj hij e => by
  have := rise_lt h i j hij hj
  unfold nthB at this
  rw [List.getElem?_eq_getElem hi, List.getElem?_eq_getElem hj, e] at this
  exact less_irrefl _ this
theorem index_dot (b : List UInt8) : ∀ a : List UInt8, (46 : UInt8) ∉ a → Lib.index (a ++ 46 :: b) [46] = (a.length : Int)
 | [], _ => by simp [Lib.index, List.isPrefixOf]
 | c :: a, h => by
  have ih := index_dot b a (fun hh => h (List.mem_cons.2 (.inr hh)))
  have hc : ((46 : UInt8) == c) = false := beq_eq_false_iff_ne.2 (fun e => h (List.mem_cons.2 (.inl e)))
  rw [List.cons_append, Lib.index, ih]
  have hp : List.isPrefixOf [46] (c :: (a ++ 46 :: b)) = false := by simp [List.isPrefixOf, hc]
  rw [hp, if_neg (by decide), if_neg (by rw [beq_iff_eq]; omega), List.length_cons]
  omega
theorem index_nodot : ∀ a : List UInt8, (46 : UInt8) ∉ a → Lib.index a [46] = -1
 | [], _ => rfl
 | c :: a, h => by
  have ih := index_nodot a (fun hh => h (List.mem_cons.2 (.inr hh)))
  have hc : ((46 : UInt8) == c) = false := beq_eq_false_iff_ne.2 (fun e => h (List.mem_cons.2 (.inl e)))
  rw [Lib.index, ih]
  have hp : List.isPrefixOf [46] (c :: a) = false := by simp [List.isPrefixOf, hc]
  rw [hp]
  rfl
theorem cut_dot {a b : List UInt8} (h : (46 : UInt8) ∉ a) : Lib.cut (a ++ 46 :: b) [46] = (a, b, true) := by
 unfold Lib.cut
 rw [index_dot b a h, if_pos (by omega)]
 have h1 : (a ++ 46 :: b).take ((a.length : Int).toNat) = a := by rw [Int.toNat_natCast, List.take_left']; rfl
 have h2 : (a ++ 46 :: b).drop ((a.length : Int).toNat + [(46 : UInt8)].length) = b := by
  rw [Int.toNat_natCast, show a ++ 46 :: b = (a ++ [46]) ++ b by simp]
  exact List.drop_left' (by simp)
 rw [h1, h2]
theorem cut_nodot {a : List UInt8} (h : (46 : UInt8) ∉ a) : Lib.cut a [46] = (a, [], false) := by
 unfold Lib.cut
 rw [index_nodot a h, if_neg (by decide)]
theorem join_iff {P O N : List UInt8} (hP : (46 : UInt8) ∉ P) (hO : O ≠ []) : P ++ 46 :: O = N ↔ P = (Lib.cut N [46]).1 ∧ O = (Lib.cut N [46]).2.1 := by
 constructor
 ·rintro rfl
  rw [cut_dot hP]
  exact ⟨rfl, rfl⟩
 ·rintro ⟨h1, h2⟩
  by_cases hd : (46 : UInt8) ∈ N
  ·obtain ⟨us, vs, rfl, hn⟩ := List.eq_append_cons_of_mem hd
   rw [cut_dot hn] at h1 h2
   rw [h1, h2]
  ·rw [cut_nodot hd] at h2
   exact absurd h2 hO
theorem bytes_eq_iff {a b : ByteArray} : (a.toList == b.toList) = true ↔ a = b := by
 rw [beq_iff_eq, ByteArray.toList_eq, ByteArray.toList_eq]
 constructor
 ·intro h
  exact ByteArray.ext (Array.toList_inj.1 h)
 ·rintro rfl
  rfl
theorem joined_eq {pre own nm : ByteArray} (hd : (46 : UInt8) ∉ pre.data.toList) (ho : own.data.toList ≠ []) : (((pre ++ ⟨#[46]⟩) ++ own).toList == nm.toList) = ((pre.toList == (preB nm).toList) && (own.toList == (ownB nm).toList)) := by
 rw [Bool.eq_iff_iff, Bool.and_eq_true, beq_iff_eq, beq_iff_eq, beq_iff_eq, ByteArray.toList_eq, ByteArray.toList_eq, ByteArray.toList_eq, ByteArray.toList_eq, ByteArray.toList_eq, ByteArray.toList_eq]
 have h := join_iff (N := nm.data.toList) hd ho
 have e : ((pre ++ ⟨#[46]⟩) ++ own).data.toList = pre.data.toList ++ 46 :: own.data.toList := by simp [ByteArray.data_append]
 rw [e, h]
 exact Iff.rfl
theorem opsFind_eq {pre nm : ByteArray} (hd : (46 : UInt8) ∉ pre.data.toList) : ∀ ops : List DefD, (∀ o ∈ ops, o.name.data.toList ≠ []) → opsFind pre nm ops = if (pre.toList == (preB nm).toList) = true then findD ops (ownB nm) else none
 | [], _ => by
  unfold opsFind findD
  split <;> rfl
 | o :: ops, h => by
  have ih := opsFind_eq (nm := nm) hd ops (fun x hx => h x (List.mem_cons.2 (.inr hx)))
  have hj := joined_eq (nm := nm) hd (h o (List.mem_cons.2 (.inl rfl)))
  rw [opsFind, hj, ih]
  cases hp : (pre.toList == (preB nm).toList)
  ·rfl
  ·cases hq : (o.name.toList == (ownB nm).toList)
   ·unfold findD
    rw [List.find?_cons_of_neg (by rw [hq]; decide)]
    rfl
   ·unfold findD
    rw [List.find?_cons_of_pos (p := fun d : DefD => d.name.toList == (ownB nm).toList) hq]
    rfl
structure DotFree (x : DiaD) : Prop where
 nm : (46 : UInt8) ∉ x.name.data.toList
 each : ∀ o ∈ x.ops, o.name.data.toList ≠ []
theorem allFind_eq {nm : ByteArray} : ∀ l : List DiaD, (∀ x ∈ l, DotFree x) → (∀ x ∈ l, ∀ y ∈ l, x.name = y.name → x = y) →
  allFind nm l = match l.find? (fun x => x.name.toList == (preB nm).toList) with
   | some x => findD x.ops (ownB nm)
   | none => none
 | [], _, _ => rfl
 | x :: l, hok, hu => by
  have ih := allFind_eq (nm := nm) l (fun y hy => hok y (List.mem_cons.2 (.inr hy))) (fun y hy z hz => hu y (List.mem_cons.2 (.inr hy)) z (List.mem_cons.2 (.inr hz)))
  have hx := hok x (List.mem_cons.2 (.inl rfl))
  have ho := opsFind_eq (nm := nm) hx.nm x.ops hx.each
  cases hp : (x.name.toList == (preB nm).toList)
  ·rw [hp, if_neg (by decide)] at ho
   rw [List.find?_cons_of_neg (by rw [hp]; decide), allFind, ho, ih]
  ·rw [hp, if_pos rfl] at ho
   rw [List.find?_cons_of_pos (p := fun x : DiaD => x.name.toList == (preB nm).toList) hp, allFind, ho]
   cases hf : findD x.ops (ownB nm) with
   | some d => exact hf.symm
   | none =>
    show allFind nm l = findD x.ops (ownB nm)
    rw [hf, ih]
    cases hl : l.find? (fun x => x.name.toList == (preB nm).toList) with
    | none => rfl
    | some y =>
     have hm := List.mem_of_find?_eq_some hl
     have hy := List.find?_some hl
     have e := hu x (List.mem_cons.2 (.inl rfl)) y (List.mem_cons.2 (.inr hm)) ((bytes_eq_iff.1 hp).trans (bytes_eq_iff.1 hy).symm)
     subst e
     exact hf
theorem mem_all {z : DiaD} (a b : List DiaD) (h : z ∈ a ∨ z ∈ b) : z ∈ allL a b := by
 induction a, b using allL.induct with
 | case1 xs => rw [allL]; exact h.resolve_left (fun h => nomatch h)
 | case2 c cs => rw [allL]; exact h.resolve_right (fun h => nomatch h)
 | case3 c cs x xs hc ih =>
  rw [allL, if_pos hc]
  rcases h with h | h
  ·rcases List.mem_cons.1 h with h | h
   ·exact List.mem_cons.2 (.inl h)
   ·exact List.mem_cons.2 (.inr (ih (.inl h)))
  ·exact List.mem_cons.2 (.inr (ih (.inr h)))
 | case4 c cs x xs hc ih =>
  rw [allL, if_neg hc]
  rcases h with h | h
  ·exact List.mem_cons.2 (.inr (ih (.inl h)))
  ·rcases List.mem_cons.1 h with h | h
   ·exact List.mem_cons.2 (.inl h)
   ·exact List.mem_cons.2 (.inr (ih (.inr h)))
def dotFreeB (x : DiaD) : Bool := x.name.data.toList.all (fun c => c != 46) && x.ops.all fun o => !o.name.data.toList.isEmpty
theorem dotFree_of {x : DiaD} (h : dotFreeB x = true) : DotFree x := by
 unfold dotFreeB at h
 simp only [Bool.and_eq_true, List.all_eq_true, bne_iff_ne, Bool.not_eq_true', List.isEmpty_eq_false_iff] at h
 exact ⟨fun hh => h.1 _ hh rfl, h.2⟩
theorem core_dotFree : ∀ x ∈ coreD, DotFree x := by
 have h : (coreD.all dotFreeB) = true := by decide
 exact fun x hx => dotFree_of (List.all_eq_true.1 h x hx)
theorem name_dotFree {s : ByteArray} (h : nameB s = true) : (46 : UInt8) ∉ s.data.toList ∧ s.data.toList ≠ [] := by
 obtain ⟨-, h1, h2⟩ := (isNameR_iff _).1 h
 refine ⟨fun hh => absurd (List.all_eq_true.1 h2 _ hh) (by decide), fun e => ?_⟩
 rw [e] at h1
 cases h1
theorem good_dotFree {x : DiaD} (h : goodX x = true) : DotFree x := by
 unfold goodX rightX at h
 simp only [Bool.and_eq_true] at h
 refine ⟨(name_dotFree h.2.1.1.1.1.1.1).1, fun o ho => ?_⟩
 have hd := List.all_eq_true.1 h.2.1.1.2 o ho
 unfold rightD at hd
 simp only [Bool.and_eq_true] at hd
 exact (name_dotFree hd.1.1.1.1.1.1.1.1.1).2
theorem core_uniq : ∀ x ∈ coreD, ∀ y ∈ coreD, x.name = y.name → x = y := by
 intro x hx y hy h
 have h' : x.name.data.toList = y.name.data.toList := by rw [h]
 clear h
 simp only [coreD, List.mem_cons, List.not_mem_nil, or_false] at hx hy
 rcases hx with rfl | rfl | rfl | rfl | rfl | rfl | rfl <;> rcases hy with rfl | rfl | rfl | rfl | rfl | rfl | rfl <;> first | rfl | exact absurd h' (by decide)
theorem core_named : ∀ x ∈ coreD, x.name ∈ coreNamesL := by
 intro x hx
 simp only [coreD, List.mem_cons, List.not_mem_nil, or_false] at hx
 rcases hx with rfl | rfl | rfl | rfl | rfl | rfl | rfl <;> simp [coreNamesL]
theorem nodup_uniq : ∀ {l : List DiaD}, (l.map (·.name)).Nodup → ∀ x ∈ l, ∀ y ∈ l, x.name = y.name → x = y
 | [], _, x, hx, _, _, _ => nomatch hx
 | z :: l, h, x, hx, y, hy, e => by
  rw [List.map_cons, List.nodup_cons] at h
  rcases List.mem_cons.1 hx with e1 | h1 <;> rcases List.mem_cons.1 hy with e2 | h2
  ·rw [e1, e2]
  ·exact absurd (List.mem_map.2 ⟨y, h2, by rw [← e, e1]⟩) h.1
  ·exact absurd (List.mem_map.2 ⟨x, h1, by rw [e, e2]⟩) h.1
  ·exact nodup_uniq h.2 x h1 y h2 e
theorem find_uniq {α : Type} {p : α → Bool} {l : List α} {x : α} (hx : x ∈ l) (hp : p x = true) (hu : ∀ y ∈ l, p y = true → y = x) : l.find? p = some x := by
 cases hf : l.find? p with
 | none => exact absurd hp (List.find?_eq_none.1 hf x hx)
 | some y => rw [hu y (List.mem_of_find?_eq_some hf) (List.find?_some hf)]
theorem coreFind_eq (p : ByteArray) : coreFind p = (coreD.find? fun x => p.toList == x.name.data.toList).map (·.ops) := by
 have e : coreTab = coreD.map (fun x => (x.name.data.toList, x.ops)) := rfl
 unfold coreFind
 rw [e, List.find?_map, Option.map_map]
 rfl
theorem xs_uniq {xs : List DiaD} (h : rightXs xs = true) : ∀ x ∈ allL coreD xs, ∀ y ∈ allL coreD xs, x.name = y.name → x = y := by
 unfold rightXs at h
 simp only [Bool.and_eq_true] at h
 have hg := fun x hx => List.all_eq_true.1 h.2 x hx
 have hn : ∀ x ∈ xs, x.name ∉ coreNamesL := fun x hx hm => by
  have := hg x hx
  unfold goodX at this
  rw [(isIn_iff _ _).2 hm] at this
  cases this
 intro x hx y hy e
 rcases all_mem _ _ hx with hx | hx <;> rcases all_mem _ _ hy with hy | hy
 ·exact core_uniq x hx y hy e
 ·exact absurd (e ▸ core_named x hx) (hn y hy)
 ·exact absurd (e ▸ core_named y hy) (hn x hx)
 ·exact nodup_uniq (rise_nodup h.1.2) x hx y hy e
theorem defn_all {xs : List DiaD} (nm : ByteArray) (h : rightXs xs = true) : defnOf xs nm = allFind nm (allL coreD xs) := by
 have hu := xs_uniq h
 have hok : ∀ x ∈ allL coreD xs, DotFree x := fun x hx => by
  rcases all_mem _ _ hx with hx | hx
  ·exact core_dotFree x hx
  ·unfold rightXs at h
   simp only [Bool.and_eq_true] at h
   exact good_dotFree (List.all_eq_true.1 h.2 x hx)
 rw [allFind_eq _ hok hu]
 unfold defnOf
 rw [coreFind_eq]
 cases hc : coreD.find? (fun x => (preB nm).toList == x.name.data.toList) with
 | some x =>
  have hm := mem_all (z := x) coreD xs (.inl (List.mem_of_find?_eq_some hc))
  have hp : (x.name.toList == (preB nm).toList) = true := by
   have := List.find?_some hc
   rw [beq_iff_eq] at this ⊢
   rw [this, ByteArray.toList_eq]
  rw [find_uniq hm hp fun y hy hpy => hu y hy x hm ((bytes_eq_iff.1 hpy).trans (bytes_eq_iff.1 hp).symm)]
  rfl
 | none =>
  have hno : ∀ x ∈ coreD, ¬ (x.name.toList == (preB nm).toList) = true := fun x hx hp => by
   refine List.find?_eq_none.1 hc x hx ?_
   rw [beq_iff_eq] at hp ⊢
   rw [← hp, ByteArray.toList_eq]
  show (match xs.find? (fun x => x.name.toList == (preB nm).toList) with | some x => findD x.ops (ownB nm) | none => none) = _
  cases hf : xs.find? (fun x => x.name.toList == (preB nm).toList) with
  | some y =>
   have hm := mem_all (z := y) coreD xs (.inr (List.mem_of_find?_eq_some hf))
   have hp := List.find?_some hf
   rw [find_uniq hm hp fun z hz hpz => hu z hz y hm ((bytes_eq_iff.1 hpz).trans (bytes_eq_iff.1 hp).symm)]
  | none =>
   rw [List.find?_eq_none.2 fun z hz => (all_mem _ _ hz).elim (hno z) (List.find?_eq_none.1 hf z)]
end Go.Proofs.YtgimdkgjfenafaaGreatDoor
