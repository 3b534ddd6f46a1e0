import Derived.Test.YtgimdkgjfenafaaGreatDoorFDxFA
import Derived.Test.YtgimdkgjfenafaaGreatDoorG21
import Derived.Test.YtgimdkgjfenafaaGreatDoorG39
import Derived.Deep.Slices
import Derived.BigQuiet
import Derived.Test.YtgimdkgjfenafaaGreatDoorG41
import Derived.Test.YtgimdkgjfenafaaGreatDoorG45
import Derived.Deep.RegionHeld3
namespace Go.Proofs.YtgimdkgjfenafaaGreatDoor
open Go.RowKit
def PlacePost (l : List AttD) (s : ByteArray) (w : World) (e : Ending) (w' : World) : Prop := w = w' ∧
 ((∃ (m : Nat) (a : AttD), l[m]? = some a ∧ a.name = s ∧ (∀ (j : Nat) (b : AttD), j < m → l[j]? = some b → b.name ≠ s) ∧ e = .returned (.int .i64 m)) ∨
  ((∀ (j : Nat) (b : AttD), l[j]? = some b → b.name ≠ s) ∧ e = .returned (.int .i64 (-1))))
set_option maxHeartbeats 2000000 in
set_option maxRecDepth 100000 in
theorem RPlace_any (ro : Option Addr) (l : List AttD) (c : Nat) (s : ByteArray) (hn : l.length ≤ 4611686018427387903) (w : World) (h : RowIs w ro l.length (l.flatMap AttD.cells)) :
  Calls Tryz.prog 61 #[.slice ro l.length c, .string s] w (PlacePost l s w) := by
 have H := Lib.hid h
 have hni : (l.length : Int) ≤ 4611686018427387903 := by omega
 clear h
 go_enter Tryz.func61, Tryz.ntmps61
 go_wp2_with fail
 go_loop [5] (fun i => ∃ m : Nat, m ≤ l.length ∧ i = .int .i64 m ∧ Hid (∀ (j : Nat) (b : AttD), j < m → l[j]? = some b → b.name ≠ s)) (fun i => l.length - (intOf i).toNat)
 case atStart => exact ⟨0, Nat.zero_le _, rfl, fun j b hj => absurd hj (Nat.not_lt_zero _)⟩
 case round =>
  obtain ⟨m, hm, rfl, HA⟩ := hrel
  by_cases hlt : m < l.length
  ·obtain ⟨bk, o, e1, kk⟩ := RowIs.at att_len H.out (List.getElem?_eq_getElem hlt)
   obtain rfl : ro = _ := e1
   have hjs := List.getElem?_eq_getElem hlt
   generalize l[m] = a at kk hjs
   have k0 := kk 0 _ rfl
   rw [Nat.add_zero] at k0
   clear kk
   have HJ := Lib.hid hjs
   have HLT := Lib.hid hlt
   have hlti : (m : Int) < (l.length : Int) := by omega
   clear hjs hlt hm
   cases heq : (a.name.toList == s.toList)
   ·have HNE := Lib.hid (toList_ne heq)
    go_wp2_with fail
    go_round
    case rel => exact ⟨m + 1, HLT.out, by go_num, fun j b hj hb => by
      rcases Nat.lt_or_ge j m with h | h
      ·exact HA.out j b h hb
      ·obtain rfl : j = m := by omega
       rw [HJ.out] at hb
       cases hb
       exact HNE.out⟩
    case measure => have := HLT.out; simp only [intOf]; omega
   ·have HEQ := Lib.hid (toList_inj heq)
    go_wp2_with fail
    go_ret
    exact ⟨rfl, .inl ⟨m, a, HJ.out, HEQ.out, HA.out, rfl⟩⟩
  ·have hge : ¬ (m : Int) < (l.length : Int) := by omega
   have HNO := Lib.hid (show ∀ (j : Nat) (b : AttD), l[j]? = some b → b.name ≠ s from fun j b hb => HA.out j b (by have := (List.getElem?_eq_some_iff.1 hb).1; omega) hb)
   clear hlt hm
   go_wp2_with fail
   go_ret
   exact ⟨rfl, .inr ⟨HNO.out, rfl⟩⟩
end Go.Proofs.YtgimdkgjfenafaaGreatDoor
namespace Go.Proofs.YtgimdkgjfenafaaGreatDoor
theorem nodup_sub {α : Type} [DecidableEq α] : ∀ (l m : List α), l.Nodup → (∀ x ∈ l, x ∈ m) → l.length ≤ m.length
 | [], _, _, _ => Nat.zero_le _
 | a :: l, m, hn, hs => by
  have ha : a ∈ m := hs a List.mem_cons_self
  have hn' := List.nodup_cons.1 hn
  have := nodup_sub l (m.erase a) hn'.2 fun x hx => (List.mem_erase_of_ne (fun e : x = a => hn'.1 (by rw [← e]; exact hx))).2 (hs x (List.mem_cons_of_mem _ hx))
  rw [List.length_erase_of_mem ha] at this
  have := List.length_pos_of_mem ha
  simp only [List.length_cons]
  omega
def metB (needs : List NeedD) (a : AttD) : Bool := (needs.find? (fun y : NeedD => y.name.toList == a.name.toList)).isSome
def mayB (needs : List NeedD) (a : AttD) : Bool := match needs.find? (fun y : NeedD => y.name.toList == a.name.toList) with
 | some n => n.kind == a.kind
 | none => startB a.name xS
theorem attR_iff (needs : List NeedD) : ∀ (l : List AttD) (f : ByteArray → Bool) (k : Int), attR needs l f k = true ↔
  (∀ a ∈ l, f a.name = false) ∧ (l.map (fun a : AttD => a.name)).Nodup ∧ (∀ a ∈ l, mayB needs a = true) ∧ k = (l.countP (metB needs) : Nat)
 | [], f, k => by simp [attR]
 | a :: l, f, k => by
  have step : ∀ (ok : Bool) (k' : Int), ((if (f a.name || !ok) = true then false else attR needs l (putS f a.name) k') = true ↔ (f a.name = false ∧ ok = true) ∧ attR needs l (putS f a.name) k' = true) := by
   intro ok k'
   cases f a.name <;> cases ok <;> simp
  have hadd : (∀ b ∈ l, putS f a.name b.name = false) ↔ (a.name ∉ l.map (fun b : AttD => b.name)) ∧ ∀ b ∈ l, f b.name = false := by
   constructor
   ·intro h
    refine ⟨fun hm => ?_, fun b hb => ?_⟩
    ·obtain ⟨b, hb, e⟩ := List.mem_map.1 hm
     have := h b hb
     rw [e, putS_same] at this
     cases this
    ·have := h b hb
     by_cases e : b.name = a.name
     ·rw [e, putS_same] at this; cases this
     ·rwa [putS_other f e] at this
   ·rintro ⟨h1, h2⟩ b hb
    have e : b.name ≠ a.name := fun e => h1 (List.mem_map.2 ⟨b, hb, e⟩)
    rw [putS_other f e]
    exact h2 b hb
  have hmet : metB needs a = (needs.find? (fun y : NeedD => y.name.toList == a.name.toList)).isSome := rfl
  have hmay : mayB needs a = match needs.find? (fun y : NeedD => y.name.toList == a.name.toList) with | some n => n.kind == a.kind | none => startB a.name xS := rfl
  have hatt : attR needs (a :: l) f k = match needs.find? (fun y : NeedD => y.name.toList == a.name.toList) with
   | some n => if (f a.name || !(n.kind == a.kind)) = true then false else attR needs l (putS f a.name) (k - 1)
   | none => if (f a.name || !startB a.name xS) = true then false else attR needs l (putS f a.name) k := rfl
  rw [hatt]
  cases hfd : needs.find? (fun y : NeedD => y.name.toList == a.name.toList) with
  | some n =>
   rw [hfd] at hmet hmay
   rw [show (match (some n : Option NeedD) with | some n => (if (f a.name || !(n.kind == a.kind)) = true then false else attR needs l (putS f a.name) (k - 1)) | none => (if (f a.name || !startB a.name xS) = true then false else attR needs l (putS f a.name) k)) = (if (f a.name || !(n.kind == a.kind)) = true then false else attR needs l (putS f a.name) (k - 1)) from rfl, step, attR_iff needs l, hadd]
   rw [List.countP_cons_of_pos (by rw [hmet]; rfl)]
   simp only [List.mem_cons, forall_eq_or_imp, List.map_cons, List.nodup_cons, hmay]
   constructor
   ·rintro ⟨⟨h1, h2⟩, ⟨h3, h4⟩, h5, h6, h7⟩
    exact ⟨⟨h1, h4⟩, ⟨h3, h5⟩, ⟨h2, h6⟩, by omega⟩
   ·rintro ⟨⟨h1, h4⟩, ⟨h3, h5⟩, ⟨h2, h6⟩, h7⟩
    exact ⟨⟨h1, h2⟩, ⟨h3, h4⟩, h5, h6, by omega⟩
  | none =>
   rw [hfd] at hmet hmay
   rw [show (match (none : Option NeedD) with | some n => (if (f a.name || !(n.kind == a.kind)) = true then false else attR needs l (putS f a.name) (k - 1)) | none => (if (f a.name || !startB a.name xS) = true then false else attR needs l (putS f a.name) k)) = (if (f a.name || !startB a.name xS) = true then false else attR needs l (putS f a.name) k) from rfl, step, attR_iff needs l, hadd]
   rw [List.countP_cons_of_neg (by rw [hmet]; decide)]
   simp only [List.mem_cons, forall_eq_or_imp, List.map_cons, List.nodup_cons, hmay]
   constructor
   ·rintro ⟨⟨h1, h2⟩, ⟨h3, h4⟩, h5, h6, h7⟩
    exact ⟨⟨h1, h4⟩, ⟨h3, h5⟩, ⟨h2, h6⟩, h7⟩
   ·rintro ⟨⟨h1, h4⟩, ⟨h3, h5⟩, ⟨h2, h6⟩, h7⟩
    exact ⟨⟨h1, h2⟩, ⟨h3, h4⟩, h5, h6, h7⟩
end Go.Proofs.YtgimdkgjfenafaaGreatDoor
namespace Go.Proofs.YtgimdkgjfenafaaGreatDoor
def okB (needs : List NeedD) (a : AttD) : Bool := needs.any (fun y : NeedD => y.name.toList == a.name.toList && y.kind == a.kind)
theorem find_same {needs : List NeedD} (hd : (needs.map (fun y : NeedD => y.name)).Nodup) {s : ByteArray} {n y : NeedD} (hn : needs.find? (fun y : NeedD => y.name.toList == s.toList) = some n) (hy : y ∈ needs) (e : y.name = s) : y = n := by
 induction needs with
 | nil => cases hy
 | cons z zs ih =>
  rw [List.map_cons, List.nodup_cons] at hd
  rw [List.find?_cons] at hn
  cases hz : (z.name.toList == s.toList)
  ·rw [hz] at hn
   rcases List.mem_cons.1 hy with rfl | h
   ·exact absurd e (toList_ne hz)
   ·exact ih hd.2 hn h
  ·rw [hz] at hn
   obtain rfl : z = n := Option.some.inj hn
   rcases List.mem_cons.1 hy with rfl | h
   ·rfl
   ·exact absurd (List.mem_map.2 ⟨y, h, e.trans (toList_inj hz).symm⟩) hd.1
theorem ok_met {needs : List NeedD} (hd : (needs.map (fun y : NeedD => y.name)).Nodup) (a : AttD) : okB needs a = true ↔ ∃ n, needs.find? (fun y : NeedD => y.name.toList == a.name.toList) = some n ∧ n.kind = a.kind := by
 unfold okB
 rw [List.any_eq_true]
 constructor
 ·rintro ⟨y, hy, h⟩
  rw [Bool.and_eq_true] at h
  cases hf : needs.find? (fun y : NeedD => y.name.toList == a.name.toList) with
  | none => exact absurd h.1 (by simpa using List.find?_eq_none.1 hf y hy)
  | some n =>
   refine ⟨n, rfl, ?_⟩
   rw [← find_same hd hf hy (toList_inj h.1)]
   simpa using h.2
 ·rintro ⟨n, hf, hk⟩
  refine ⟨n, List.mem_of_find?_eq_some hf, ?_⟩
  rw [Bool.and_eq_true]
  exact ⟨by simpa using List.find?_some hf, by simpa using hk⟩
theorem nodup_filter {α β : Type} {f : α → β} {l : List α} (h : (l.map f).Nodup) (p : α → Bool) : ((l.filter p).map f).Nodup :=
 h.sublist (List.filter_sublist.map f)
theorem name_inj {l : List AttD} (h : (l.map (fun a : AttD => a.name)).Nodup) {a b : AttD} (ha : a ∈ l) (hb : b ∈ l) (e : a.name = b.name) : a = b := by
 induction l with
 | nil => cases ha
 | cons z zs ih =>
  rw [List.map_cons, List.nodup_cons] at h
  rcases List.mem_cons.1 ha with e1 | ha1
  ·rcases List.mem_cons.1 hb with e2 | hb1
   ·rw [e1, e2]
   ·exact h.1.elim (List.mem_map.2 ⟨b, hb1, by rw [← e, e1]⟩)
  ·rcases List.mem_cons.1 hb with e2 | hb1
   ·exact h.1.elim (List.mem_map.2 ⟨a, ha1, by rw [e, e2]⟩)
   ·exact ih h.2 ha1 hb1
theorem attrs_iff (d : DefD) (hd : (d.needs.map (fun y : NeedD => y.name)).Nodup) (l : List AttD) : attrsB d l = true ↔
  (l.map (fun a : AttD => a.name)).Nodup ∧ (∀ a ∈ l, okB d.needs a = true ∨ startB a.name xS = true) ∧ l.countP (okB d.needs) = d.needs.length := by
 unfold attrsB
 rw [attR_iff]
 constructor
 ·rintro ⟨_, h2, h3, h4⟩
  have hcm : l.countP (okB d.needs) = l.countP (metB d.needs) := List.countP_congr fun a ha => by
   have hm := h3 a ha
   rw [ok_met hd]
   unfold metB
   unfold mayB at hm
   cases hf : d.needs.find? (fun y : NeedD => y.name.toList == a.name.toList) with
   | none => simp
   | some n =>
    rw [hf] at hm
    simpa using hm
  refine ⟨h2, fun a ha => ?_, by omega⟩
  have hm := h3 a ha
  unfold mayB at hm
  cases hf : d.needs.find? (fun y : NeedD => y.name.toList == a.name.toList) with
  | none => rw [hf] at hm; exact .inr hm
  | some n => rw [hf] at hm; exact .inl ((ok_met hd a).2 ⟨n, hf, by simpa using hm⟩)
 ·rintro ⟨h2, h3, h4⟩
  have key : ∀ a ∈ l, ∀ n, d.needs.find? (fun y : NeedD => y.name.toList == a.name.toList) = some n → n.kind = a.kind := by
   intro a ha n hf
   cases hk : okB d.needs a
   rotate_left
   ·obtain ⟨n', e1, e2⟩ := (ok_met hd a).1 hk
    rw [hf] at e1
    cases e1
    exact e2
   ·exfalso
    have hlen : (l.filter (okB d.needs)).length = d.needs.length := by rw [← List.countP_eq_length_filter]; exact h4
    have hs := nodup_sub (a.name :: (l.filter (okB d.needs)).map (fun a : AttD => a.name)) (d.needs.map (fun y : NeedD => y.name)) ?_ ?_
    ·simp only [List.length_cons, List.length_map] at hs
     omega
    ·rw [List.nodup_cons]
     refine ⟨fun hm => ?_, nodup_filter h2 _⟩
     obtain ⟨b, hb, e⟩ := List.mem_map.1 hm
     rw [List.mem_filter] at hb
     obtain rfl := name_inj h2 hb.1 ha e
     rw [hk] at hb
     cases hb.2
    ·intro s hs
     rcases List.mem_cons.1 hs with rfl | hs
     ·exact List.mem_map.2 ⟨n, List.mem_of_find?_eq_some hf, toList_inj (by simpa using List.find?_some hf)⟩
     ·obtain ⟨b, hb, rfl⟩ := List.mem_map.1 hs
      rw [List.mem_filter] at hb
      obtain ⟨n', e1, _⟩ := (ok_met hd b).1 hb.2
      exact List.mem_map.2 ⟨n', List.mem_of_find?_eq_some e1, toList_inj (by simpa using List.find?_some e1)⟩
  have hcm : l.countP (okB d.needs) = l.countP (metB d.needs) := List.countP_congr fun a ha => by
   rw [ok_met hd]
   unfold metB
   cases hf : d.needs.find? (fun y : NeedD => y.name.toList == a.name.toList) with
   | none => simp
   | some n => simpa using key a ha n hf
  refine ⟨fun _ _ => rfl, h2, fun a ha => ?_, by omega⟩
  unfold mayB
  cases hf : d.needs.find? (fun y : NeedD => y.name.toList == a.name.toList) with
  | some n => simpa using key a ha n hf
  | none =>
   rcases h3 a ha with h | h
   ·obtain ⟨n, e, _⟩ := (ok_met hd a).1 h
    rw [hf] at e
    cases e
   ·exact h
end Go.Proofs.YtgimdkgjfenafaaGreatDoor
namespace Go.Proofs.YtgimdkgjfenafaaGreatDoor
theorem less_cons (a b : UInt8) (x y : List UInt8) : Op.bytesLess (a :: x) (b :: y) = true ↔ a < b ∨ (a = b ∧ Op.bytesLess x y = true) := by
 rw [Op.bytesLess, Bool.or_eq_true, Bool.and_eq_true, decide_eq_true_iff, beq_iff_eq]
theorem u8_trans {a b c : UInt8} (h : a < b) (k : b < c) : a < c := by
 have h1 := UInt8.lt_iff_toNat_lt.1 h
 have h2 := UInt8.lt_iff_toNat_lt.1 k
 exact UInt8.lt_iff_toNat_lt.2 (by omega)
theorem less_trans : ∀ {a b c : List UInt8}, Op.bytesLess a b = true → Op.bytesLess b c = true → Op.bytesLess a c = true
 | _, [], _, h, _ => by rw [Op.bytesLess.eq_def] at h; simp at h
 | _, _ :: _, [], _, h => by rw [Op.bytesLess] at h; cases h
 | [], _ :: _, _ :: _, _, _ => by rw [Op.bytesLess]
 | a :: x, b :: y, c :: z, h, k => by
  rw [less_cons] at h k ⊢
  rcases h with h | ⟨rfl, h⟩
  ·rcases k with k | ⟨rfl, k⟩
   ·exact .inl (u8_trans h k)
   ·exact .inl h
  ·rcases k with k | ⟨rfl, k⟩
   ·exact .inl k
   ·exact .inr ⟨rfl, less_trans h k⟩
theorem less_irrefl : ∀ a : List UInt8, ¬ Op.bytesLess a a = true
 | [], h => by rw [Op.bytesLess.eq_def] at h; simp at h
 | a :: x, h => by
  rcases (less_cons a a x x).1 h with h | ⟨_, h⟩
  ·have := UInt8.lt_iff_toNat_lt.1 h
   omega
  ·exact less_irrefl x h
theorem rise_lt {ns : List ByteArray} (h : risingL ns = true) (i : Nat) : ∀ j : Nat, i < j → j < ns.length → Op.bytesLess (nthB ns i).toList (nthB ns j).toList = true := by
 have one : ∀ k, k + 1 < ns.length → Op.bytesLess (nthB ns k).toList (nthB ns (k + 1)).toList = true := fun k hk => by
  have := List.all_eq_true.1 h (k + 1) (List.mem_range.2 hk)
  unfold riseAt at this
  simpa using this
 intro j hij hj
 induction j with
 | zero => omega
 | succ j ih =>
  rcases Nat.lt_or_ge i j with h1 | h1
  ·exact less_trans (ih h1 (by omega)) (one j hj)
  ·obtain rfl : i = j := by omega
   exact one i hj
theorem rise_nodup {ns : List ByteArray} (h : risingL ns = true) : ns.Nodup :=
 List.pairwise_iff_getElem.2 fun i j hi hj hij e => by
  have := rise_lt h i j hij hj
  unfold nthB at this
  rw [List.getElem?_eq_getElem hi, List.getElem?_eq_getElem hj, e] at this
  exact less_irrefl _ this
end Go.Proofs.YtgimdkgjfenafaaGreatDoor
namespace Go.Proofs.YtgimdkgjfenafaaGreatDoor
open Go.ChangeShapes Go.WideShapes Go.ChangeAt Go.RowKit
section
variable {H : Type} {enc : TypeId × Value → H} {W : World}
theorem flat_lenR {α : Type} {f : α → List Value} {k : Nat} (hf : ∀ x, (f x).length = k) (l : List α) : (l.flatMap f).length = l.length * k := by
 induction l with
 | nil => simp
 | cons a l ih => rw [List.flatMap_cons, List.length_append, hf, ih, List.length_cons, Nat.add_mul, Nat.one_mul]; omega
theorem open_rows {α : Type} [Inhabited α] {t e : TypeId} {k : Nat} (hk : 0 < k) {f : α → List Value} (hf : ∀ x, (f x).length = k) (ht : Tryz.prog.underlying t = some (.slice e)) (ce : Tryz.prog.cellsOf e = k) (Q : α → DataW H → Prop)
  (hel : ∀ {m : Nat} {cs : List Value} {y : DataW H × List MemPlace}, DataW.trod enc Tryz.prog W 0 (fun _ => true) true m e cs = some y → ∃ a : α, cs = f a ∧ Q a y.1)
  {n : Nat} {v : Value} {x : DataW H × List MemPlace} (h : DataW.trod enc Tryz.prog W 0 (fun _ => true) true n t [v] = some x) :
  ∃ (ao : Option Addr) (l : List α) (c : Nat), v = .slice ao l.length c ∧ l.length ≤ c ∧ c ≤ maxLen ∧ RowIs W ao l.length (l.flatMap f) ∧ (∀ a ∈ l, ∃ y, Q a y ∧ Rows.uptoBulk y ≤ Rows.uptoBulk x.1) ∧ l.length ≤ Rows.uptoBulk x.1 := by
 rcases Go.Deep.open_slice ht h with ⟨hcs, hx⟩ | ⟨a, len, cap, m, fu, D, Pl, hcs, _, hl, hm, hmm, hx, hx2⟩
 ·injection hcs with hcs
  exact ⟨none, [], 0, hcs, Nat.le_refl _, Nat.zero_le _, .inl rfl, (fun a ha => by cases ha), Nat.zero_le _⟩
 ·injection hcs with hcs
  simp only [if_true] at hmm
  rw [ce] at hx2
  have each : ∀ i, ∃ a' : α, i < len → W.cells? 0 (a.add (i * k)) k = some (f a') ∧ Q a' (D i) := fun i => by
   by_cases hi : i < len
   ·obtain ⟨cs', hc, ht'⟩ := hx2 i (by omega)
    obtain ⟨a', rfl, hq⟩ := hel ht'
    exact ⟨a', fun _ => ⟨hc, hq⟩⟩
   ·exact ⟨default, fun h => absurd h hi⟩
  obtain ⟨g, hg⟩ := Classical.axiomOfChoice each
  have e1 : ((List.range len).map g).length = len := by simp
  have hbe : Rows.uptoBulkAll ((List.range len).map D) + 1 ≤ Rows.uptoBulk x.1 := by
   rw [hx]
   simp only [Rows.uptoBulk]
   omega
  have hln : len ≤ Rows.uptoBulkAll ((List.range len).map D) := by
   have := bulk_len ((List.range len).map D)
   rwa [List.length_map, List.length_range] at this
  refine ⟨some a, (List.range len).map g, cap, by rw [e1]; exact hcs, by omega, hm, ?_, fun b hb => ?_, by omega⟩
  ·by_cases h0 : len = 0
   ·exact .inl (by omega)
   have hsp : a.spot = none := by
    obtain ⟨hc, _⟩ := hg 0 (by omega)
    obtain ⟨_, hlen, hcell⟩ := World.cells?_some hc
    have h0 := hcell 0 hk
    rw [Nat.zero_mul, show a.add 0 = a from rfl, show a.add 0 = a from rfl, List.getElem?_eq_getElem (by rw [hf]; exact hk)] at h0
    exact World.cell?_spot h0
   refine .inr ⟨a.block, a.off, by obtain ⟨ab, ao', asp⟩ := a; dsimp only at hsp; rw [hsp], fun j v hj => ?_⟩
   have hjl : j < len * k := by
    have := (List.getElem?_eq_some_iff.1 hj).1
    rwa [flat_lenR hf, e1] at this
   have hi : j / k < len := Nat.div_lt_of_lt_mul (by rw [Nat.mul_comm]; exact hjl)
   have hr := row_cells hf (l := (List.range len).map g) (j := j / k) (x := g (j / k)) (by rw [List.getElem?_map, List.getElem?_range hi]; rfl) (i := j % k) (v := (f (g (j / k)))[j % k]'(by rw [hf]; exact Nat.mod_lt _ hk)) (List.getElem?_eq_getElem _)
   rw [Nat.div_add_mod' j k, hj] at hr
   obtain ⟨hc, _⟩ := hg (j / k) hi
   obtain ⟨_, hlen, hcell⟩ := World.cells?_some hc
   have h1 := hcell (j % k) (Nat.mod_lt _ hk)
   have hadd : (a.add (j / k * k)).add (j % k) = ⟨a.block, a.off + j, none⟩ := by
    have e2 := Nat.div_add_mod' j k
    obtain ⟨ab, ao', asp⟩ := a
    dsimp only at hsp
    subst hsp
    unfold Addr.add
    split <;> split <;> simp_all [Nat.add_assoc]
   rw [hadd, List.getElem?_eq_getElem (by rw [hf]; exact Nat.mod_lt _ hk)] at h1
   rw [h1, hr]
  ·obtain ⟨i, hi, rfl⟩ := List.mem_map.1 hb
   have hi' : i < len := by simpa using hi
   have := bulk_mem (List.mem_map.2 ⟨i, hi, rfl⟩ : D i ∈ (List.range len).map D)
   exact ⟨D i, (hg i hi').2, by omega⟩
theorem open_aslice {t e : TypeId} {n : Nat} {v : Value} {x : DataW H × List MemPlace} (ht : Tryz.prog.underlying t = some (.slice e)) (h : DataW.trod enc Tryz.prog W 0 (fun _ => true) true n t [v] = some x) :
  ∃ (ao : Option Addr) (l c : Nat), v = .slice ao l c := by
 rcases Go.Deep.open_slice ht h with ⟨hcs, _⟩ | ⟨a, len, cap, m, fu, D, Pl, hcs, _⟩
 ·injection hcs with hcs
  exact ⟨_, _, _, hcs⟩
 ·injection hcs with hcs
  exact ⟨_, _, _, hcs⟩
theorem cells_op0 : Tryz.prog.cellsOf 61 = 6 := by kernel_rfl
theorem cells_attr0 : Tryz.prog.cellsOf 133 = 6 := by kernel_rfl
theorem cells_rgn0 : Tryz.prog.cellsOf 80 = 1 := by kernel_rfl
theorem cells_i640 : Tryz.prog.cellsOf 2 = 1 := by kernel_rfl
theorem cells_i64s0 : Tryz.prog.cellsOf 131 = 1 := by kernel_rfl
theorem cells_ints0 : Tryz.prog.cellsOf 56 = 1 := by kernel_rfl
theorem cells_attrs0 : Tryz.prog.cellsOf 57 = 1 := by kernel_rfl
theorem cells_rgns0 : Tryz.prog.cellsOf 58 = 1 := by kernel_rfl
theorem cells_blks0 : Tryz.prog.cellsOf 78 = 1 := by kernel_rfl
theorem cells_sucs0 : Tryz.prog.cellsOf 59 = 1 := by kernel_rfl
instance : Inhabited AttD := ⟨⟨⟨#[]⟩, 0, 0, ⟨#[]⟩, none, 0, 0, none, 0, 0⟩⟩
instance : Inhabited RgnD := ⟨⟨none, 0, 0⟩⟩
set_option maxRecDepth 100000 in
theorem attd_cells {n : Nat} {cs : List Value} {x : DataW H × List MemPlace} (h : DataW.trod enc Tryz.prog W 0 (fun _ => true) true n 133 cs = some x) : ∃ a : AttD, cs = a.cells ∧ a.name.size ≤ maxLen := by
 obtain ⟨xs, m, _, _, hl, hlen, hf⟩ := DataW.trod_struct Tryz.underlying133 h
 rw [cells_attr0] at hl
 have hxs : xs.length = 6 := hlen
 obtain ⟨c0, c1, c2, c3, c4, c5, rfl⟩ : ∃ c0 c1 c2 c3 c4 c5, cs = [c0, c1, c2, c3, c4, c5] := by
  match cs, hl with
  | [c0, c1, c2, c3, c4, c5], _ => exact ⟨c0, c1, c2, c3, c4, c5, rfl⟩
 have g0 : DataW.trod enc Tryz.prog W 0 (fun _ => true) true m 9 (([c0, c1, c2, c3, c4, c5].drop 0).take (Tryz.prog.cellsOf 9)) = xs[0]? := hf 0 _ rfl
 have g1 : DataW.trod enc Tryz.prog W 0 (fun _ => true) true m 101 (([c0, c1, c2, c3, c4, c5].drop 1).take (Tryz.prog.cellsOf 101)) = xs[1]? := hf 1 _ rfl
 have g2 : DataW.trod enc Tryz.prog W 0 (fun _ => true) true m 2 (([c0, c1, c2, c3, c4, c5].drop 2).take (Tryz.prog.cellsOf 2)) = xs[2]? := hf 2 _ rfl
 have g3 : DataW.trod enc Tryz.prog W 0 (fun _ => true) true m 9 (([c0, c1, c2, c3, c4, c5].drop 3).take (Tryz.prog.cellsOf 9)) = xs[3]? := hf 3 _ rfl
 have g4 : DataW.trod enc Tryz.prog W 0 (fun _ => true) true m 131 (([c0, c1, c2, c3, c4, c5].drop 4).take (Tryz.prog.cellsOf 131)) = xs[4]? := hf 4 _ rfl
 have g5 : DataW.trod enc Tryz.prog W 0 (fun _ => true) true m 27 (([c0, c1, c2, c3, c4, c5].drop 5).take (Tryz.prog.cellsOf 27)) = xs[5]? := hf 5 _ rfl
 rw [cells_string, List.getElem?_eq_getElem (by omega)] at g0 g3
 rw [cells_rkind, List.getElem?_eq_getElem (by omega)] at g1
 rw [cells_i640, List.getElem?_eq_getElem (by omega)] at g2
 rw [cells_i64s0, List.getElem?_eq_getElem (by omega)] at g4
 rw [cells_strs0, List.getElem?_eq_getElem (by omega)] at g5
 obtain ⟨nm, e0, _, hz⟩ := DataW.trod_string Tryz.underlying9 g0
 obtain ⟨k, e1, _, _⟩ := DataW.trod_int Tryz.underlying101 g1
 obtain ⟨z, e2, _, _⟩ := DataW.trod_int Tryz.underlying2 g2
 obtain ⟨t, e3, _, _⟩ := DataW.trod_string Tryz.underlying9 g3
 obtain ⟨io, il, ic, e4⟩ := open_aslice Tryz.underlying131 g4
 obtain ⟨so, sl, sc, e5⟩ := open_aslice Tryz.underlying27 g5
 obtain rfl : c0 = .string nm := by injection e0
 obtain rfl : c1 = .int .i64 k := by injection e1
 obtain rfl : c2 = .int .i64 z := by injection e2
 obtain rfl : c3 = .string t := by injection e3
 subst e4 e5
 exact ⟨⟨nm, k, z, t, io, il, ic, so, sl, sc⟩, rfl, hz⟩
set_option maxRecDepth 100000 in
theorem rgnd_cells {n : Nat} {cs : List Value} {x : DataW H × List MemPlace} (h : DataW.trod enc Tryz.prog W 0 (fun _ => true) true n 80 cs = some x) : ∃ a : RgnD, cs = a.cells ∧ True := by
 obtain ⟨y0, m, _, hl, hf⟩ := trod_struct1 Tryz.underlying80 h
 rw [cells_rgn0] at hl
 obtain ⟨c0, rfl⟩ : ∃ c0, cs = [c0] := by
  match cs, hl with
  | [c0], _ => exact ⟨c0, rfl⟩
 have g0 : DataW.trod enc Tryz.prog W 0 (fun _ => true) true m 78 (([c0].drop 0).take (Tryz.prog.cellsOf 78)) = some y0 := hf
 rw [cells_blks0] at g0
 obtain ⟨io, il, ic, e4⟩ := open_aslice Tryz.underlying78 g0
 subst e4
 exact ⟨⟨io, il, ic⟩, rfl, trivial⟩
structure OpOK (W : World) (o : OpD) : Prop where
 attrs : RowIs W o.ao o.al.length (o.al.flatMap AttD.cells)
 rgns : RowIs W o.ro o.rs.length (o.rs.flatMap RgnD.cells)
 names : ∀ a ∈ o.al, a.name.size ≤ maxLen
theorem OpOK.below {w w' : World} {o : OpD} (h : OpOK w o) (hb : Below w.heap.size w w') : OpOK w' o := ⟨h.attrs.below hb, h.rgns.below hb, h.names⟩
set_option maxRecDepth 100000 in
theorem open_op {base : Nat} {v : Value} {d : DataW H} {p : List MemPlace} (hval : Value.okWide Tryz.prog W .any base 61 v) (h : DataW.Trod enc Tryz.prog W 0 (fun _ => true) true 61 v d p) :
  ∃ o : OpD, v = o.val ∧ OpOK W o ∧ o.al.length ≤ Rows.uptoBulk d ∧ o.rs.length ≤ Rows.uptoBulk d := by
 obtain ⟨cs, rfl, _⟩ := okWide_struct Tryz.underlying61 hval
 obtain ⟨fuel, h⟩ := h
 obtain ⟨xs, m, _, hx, hl, hlen, hf⟩ := DataW.trod_struct Tryz.underlying61 h
 rw [cells_op0] at hl
 have hxs : xs.length = 6 := hlen
 obtain ⟨c0, c1, c2, c3, c4, c5, hcs⟩ : ∃ c0 c1 c2 c3 c4 c5, (Value.agg cs).cells.toList = [c0, c1, c2, c3, c4, c5] := by
  match hq : (Value.agg cs).cells.toList, hl with
  | [c0, c1, c2, c3, c4, c5], _ => exact ⟨c0, c1, c2, c3, c4, c5, rfl⟩
 rw [hcs] at hf
 have g0 : DataW.trod enc Tryz.prog W 0 (fun _ => true) true m 9 (([c0, c1, c2, c3, c4, c5].drop 0).take (Tryz.prog.cellsOf 9)) = xs[0]? := hf 0 _ rfl
 have g1 : DataW.trod enc Tryz.prog W 0 (fun _ => true) true m 56 (([c0, c1, c2, c3, c4, c5].drop 1).take (Tryz.prog.cellsOf 56)) = xs[1]? := hf 1 _ rfl
 have g2 : DataW.trod enc Tryz.prog W 0 (fun _ => true) true m 27 (([c0, c1, c2, c3, c4, c5].drop 2).take (Tryz.prog.cellsOf 27)) = xs[2]? := hf 2 _ rfl
 have g3 : DataW.trod enc Tryz.prog W 0 (fun _ => true) true m 57 (([c0, c1, c2, c3, c4, c5].drop 3).take (Tryz.prog.cellsOf 57)) = xs[3]? := hf 3 _ rfl
 have g4 : DataW.trod enc Tryz.prog W 0 (fun _ => true) true m 58 (([c0, c1, c2, c3, c4, c5].drop 4).take (Tryz.prog.cellsOf 58)) = xs[4]? := hf 4 _ rfl
 have g5 : DataW.trod enc Tryz.prog W 0 (fun _ => true) true m 59 (([c0, c1, c2, c3, c4, c5].drop 5).take (Tryz.prog.cellsOf 59)) = xs[5]? := hf 5 _ rfl
 rw [cells_string, List.getElem?_eq_getElem (by omega)] at g0
 rw [cells_ints0, List.getElem?_eq_getElem (by omega)] at g1
 rw [cells_strs0, List.getElem?_eq_getElem (by omega)] at g2
 rw [cells_attrs0, List.getElem?_eq_getElem (by omega)] at g3
 rw [cells_rgns0, List.getElem?_eq_getElem (by omega)] at g4
 rw [cells_sucs0, List.getElem?_eq_getElem (by omega)] at g5
 obtain ⟨nm, e0, _, _⟩ := DataW.trod_string Tryz.underlying9 g0
 obtain ⟨vo, vn, vc, e1⟩ := open_aslice Tryz.underlying56 g1
 obtain ⟨so, sn, sc, e2⟩ := open_aslice Tryz.underlying27 g2
 obtain ⟨ao, al, ac, e3, h3, k3, i3, q3, b3⟩ := open_rows (by decide) att_len Tryz.underlying57 cells_attr0 (fun a _ => a.name.size ≤ maxLen) (fun h => attd_cells h) g3
 obtain ⟨ro, rs, rc, e4, h4, k4, i4, q4, b4⟩ := open_rows (by decide) rgn_len Tryz.underlying58 cells_rgn0 (fun _ _ => True) (fun h => rgnd_cells h) g4
 obtain ⟨co, cn, cc, e5⟩ := open_aslice Tryz.underlying59 g5
 obtain rfl : c0 = .string nm := by injection e0
 subst e1 e2 e3 e4 e5
 have hd : d = .agg (xs.map (·.1)) := congrArg Prod.fst hx
 have hall : Rows.uptoBulkAll (xs.map (·.1)) + 1 = Rows.uptoBulk d := by rw [hd]; simp only [Rows.uptoBulk]
 have hm : ∀ i (hi : i < xs.length), Rows.uptoBulk xs[i].1 ≤ Rows.uptoBulk d := fun i hi => by
  have := bulk_mem (List.mem_map.2 ⟨xs[i], List.getElem_mem hi, rfl⟩ : xs[i].1 ∈ xs.map (·.1))
  omega
 refine ⟨⟨nm, vo, vn, vc, so, sn, sc, ao, al, ac, ro, rs, rc, co, cn, cc⟩, ?_, ⟨i3, i4, fun a ha => (q3 a ha).elim fun _ h => h.1⟩, Nat.le_trans b3 (hm 3 (by omega)), Nat.le_trans b4 (hm 4 (by omega))⟩
 have : cs = #[.string nm, .slice vo vn vc, .slice so sn sc, .slice ao al.length ac, .slice ro rs.length rc, .slice co cn cc] := by
  apply Array.toList_inj.1
  exact hcs
 rw [this]
 rfl
end
end Go.Proofs.YtgimdkgjfenafaaGreatDoor
namespace Go.Proofs.YtgimdkgjfenafaaGreatDoor
open Go.RowKit
def fitsB (d : DefD) (rs : List RgnD) (cn : Nat) (al : List AttD) : Bool := regionsB d rs && ((cn : Int) == d.succs) && attrsB d al
theorem any_take {α : Type} {l : List α} {k : Nat} {y : α} (p : α → Bool) (h : l[k]? = some y) : (l.take (k + 1)).any p = ((l.take k).any p || p y) := by
 rw [List.take_add_one, h, List.any_append]
 simp
theorem count_take {α : Type} {l : List α} {k : Nat} {y : α} (p : α → Bool) (h : l[k]? = some y) : (l.take (k + 1)).countP p = (l.take k).countP p + if p y then 1 else 0 := by
 rw [List.take_add_one, h, List.countP_append]
 simp [List.countP_cons]
def needP (a : AttD) (y : NeedD) : Bool := y.name.toList == a.name.toList && y.kind == a.kind
structure FiS (ns : List NeedD) (al : List AttD) (W2 : World) (m f : Nat) (wr : World) : Prop where
 below : Below W2.heap.size W2 wr
 so : f = (al.take m).countP (okB ns)
 fine : ∀ (j : Nat) (a : AttD), j < m → al[j]? = some a → (∀ (i : Nat) (b : AttD), i < j → al[i]? = some b → b.name ≠ a.name) ∧ (okB ns a = true ∨ startB a.name xS = true)
theorem fits_clash {d : DefD} {rs : List RgnD} {cn : Nat} {al : List AttD} (hnd : (d.needs.map (fun y : NeedD => y.name)).Nodup) {i m : Nat} {a b : AttD} (hi : al[i]? = some b) (hm : al[m]? = some a) (h : i < m) (e : b.name = a.name) : fitsB d rs cn al = false := by
 have hf : attrsB d al = false := Bool.eq_false_iff.2 fun ha => by
  have hn := ((attrs_iff d hnd al).1 ha).1
  obtain ⟨h1, e1⟩ := List.getElem?_eq_some_iff.1 hi
  obtain ⟨h2, e2⟩ := List.getElem?_eq_some_iff.1 hm
  exact List.pairwise_iff_getElem.1 hn i m (by rw [List.length_map]; exact h1) (by rw [List.length_map]; exact h2) h (by rw [List.getElem_map, List.getElem_map, e1, e2]; exact e)
 unfold fitsB
 rw [hf, Bool.and_false]
theorem fits_other {d : DefD} {rs : List RgnD} {cn : Nat} {al : List AttD} (hnd : (d.needs.map (fun y : NeedD => y.name)).Nodup) {m : Nat} {a : AttD} (hm : al[m]? = some a) (h1 : okB d.needs a = false) (h2 : startB a.name xS = false) : fitsB d rs cn al = false := by
 have hf : attrsB d al = false := Bool.eq_false_iff.2 fun ha => by
  rcases ((attrs_iff d hnd al).1 ha).2.1 a (List.mem_of_getElem? hm) with h | h
  ·rw [h1] at h; cases h
  ·rw [h2] at h; cases h
 unfold fitsB
 rw [hf, Bool.and_false]
theorem fits_count {d : DefD} (hnd : (d.needs.map (fun y : NeedD => y.name)).Nodup) {al : List AttD} {W2 wr : World} {f : Nat} (h : FiS d.needs al W2 al.length f wr) : attrsB d al = decide (f = d.needs.length) := by
 have hs := h.so
 rw [List.take_length] at hs
 by_cases he : f = d.needs.length
 ·rw [decide_eq_true he]
  refine (attrs_iff d hnd al).2 ⟨?_, fun a ha => ?_, by omega⟩
  ·refine List.pairwise_iff_getElem.2 fun i j hi hj hij => ?_
   rw [List.getElem_map, List.getElem_map]
   rw [List.length_map] at hi hj
   exact (h.fine j _ hj (List.getElem?_eq_getElem hj)).1 i _ hij (List.getElem?_eq_getElem hi)
  ·obtain ⟨j, hj⟩ := List.getElem?_of_mem ha
   exact (h.fine j a (List.getElem?_eq_some_iff.1 hj).1 hj).2
 ·rw [decide_eq_false he]
  exact Bool.eq_false_iff.2 fun ha => he (hs.trans ((attrs_iff d hnd al).1 ha).2.2)
theorem pre_no {s : ByteArray} (h : ¬ 2 ≤ s.size) : startB s xS = false := by
 unfold startB
 rw [show xS.size = 2 from rfl, decide_eq_false h]
 rfl
theorem pre_is {s : ByteArray} (h : 2 ≤ s.size) : startB s xS = ((s.extract 0 2).toList == xS.toList) := by
 unfold startB
 rw [show xS.size = 2 from rfl, decide_eq_true h]
 rfl
theorem xs_list : xS.toList = [120, 95] := by rw [ByteArray.toList_eq]; rfl
set_option maxHeartbeats 32000000 in
set_option maxRecDepth 100000 in
theorem RFits_any (d : DefD) (io : Option Addr) (ic : Nat) (oo : Option Addr) (oc : Nat) (no : Option Addr) (nc : Nat) (ko : Option Addr) (kc : Nat) (hln : d.needs.length ≤ 1048576) (hlt : d.traits.length ≤ 1048576) (hnd : (d.needs.map (fun y : NeedD => y.name)).Nodup)
  (nm : ByteArray) (vo : Option Addr) (vn vc : Nat) (so : Option Addr) (sn sc : Nat) (ao : Option Addr) (al : List AttD) (ac : Nat) (ro : Option Addr) (rs : List RgnD) (rc : Nat) (co : Option Addr) (cn cc : Nat)
  (hal : al.length ≤ 1048576) (hrl : rs.length ≤ 1048576) (hz : ∀ a ∈ al, a.name.size ≤ maxLen) (w : World) (hN : NeedsAt w no d.needs) (hT : StrsAt w ko d.traits) (hA : RowIs w ao al.length (al.flatMap AttD.cells)) (hR : RowIs w ro rs.length (rs.flatMap RgnD.cells)) :
  Calls Tryz.prog 30 #[.agg #[.string d.name, .slice io d.ins.length ic, .slice oo d.outs.length oc, .slice no d.needs.length nc, .int .i64 d.regions, .int .i64 d.succs, .slice ko d.traits.length kc], .agg #[.string nm, .slice vo vn vc, .slice so sn sc, .slice ao al.length ac, .slice ro rs.length rc, .slice co cn cc]] w fun e w' => e = .returned (.bool (fitsB d rs cn al)) ∧ Below w.heap.size w w' := by
 obtain ⟨W1, hW1⟩ : ∃ W1, W1 = w.alloc (.cells #[.string d.name, .slice io d.ins.length ic, .slice oo d.outs.length oc, .slice no d.needs.length nc, .int .i64 d.regions, .int .i64 d.succs, .slice ko d.traits.length kc] 41) := ⟨_, rfl⟩
 obtain ⟨W2, hW2⟩ : ∃ W2, W2 = W1.alloc (.cells #[.string nm, .slice vo vn vc, .slice so sn sc, .slice ao al.length ac, .slice ro rs.length rc, .slice co cn cc] 61) := ⟨_, rfl⟩
 have T0 := Lib.hid (show W1.heap[w.heap.size]? = some (.cells #[.string d.name, .slice io d.ins.length ic, .slice oo d.outs.length oc, .slice no d.needs.length nc, .int .i64 d.regions, .int .i64 d.succs, .slice ko d.traits.length kc] 41 (0, 0)) from by rw [hW1]; exact heap_alloc_new _ _)
 have B1 := Lib.hid (show Below w.heap.size w W1 from by rw [hW1]; exact new_below _ _)
 have E1 : W1.heap.size = w.heap.size + 1 := by rw [hW1]; simp
 have O0 := Lib.hid (show W2.heap[w.heap.size + 1]? = some (.cells #[.string nm, .slice vo vn vc, .slice so sn sc, .slice ao al.length ac, .slice ro rs.length rc, .slice co cn cc] 61 (0, 0)) from by rw [← E1, hW2]; exact heap_alloc_new _ _)
 have B2 := Lib.hid (show Below W1.heap.size W1 W2 from by rw [hW2]; exact new_below _ _)
 have BW := Lib.hid (B1.out.trans (B2.out.mono B1.out.size))
 replace T0 := Lib.hid ((B2.out.block _ (lt_of_block T0.out)).trans T0.out)
 have HN := Lib.hid (RowIs.below hN BW.out)
 have HT := Lib.hid (hT.below BW.out)
 have HA := Lib.hid (hA.below BW.out)
 have HR := Lib.hid (hR.below BW.out)
 have HZ := Lib.hid hz
 have HND := Lib.hid hnd
 have HLT := Lib.hid hlt
 have hnli : (d.needs.length : Int) ≤ 1048576 := by omega
 have hali : (al.length : Int) ≤ 1048576 := by omega
 have hrli : (rs.length : Int) ≤ 1048576 := by omega
 have HAL := Lib.hid hal
 clear hN hT hA hR hz hnd hlt hln hal hrl E1 B1 B2
 go_enter Tryz.func30, Tryz.ntmps30
 go_upto_region 1 with fail
 rw [← hW1, ← hW2]
 clear hW1 hW2
 generalize hD : w.heap.size = D at T0 O0 ⊢
 have HDE := Lib.hid hD
 clear hD
 obtain ⟨c0, c1, c2, c3, c4, c5, c6, cf⟩ := dcells7 T0.out
 obtain ⟨p0, p1, p2, p3, p4, p5, pf⟩ := opcells6 O0.out
 cases hq1 : ((rs.length : Int) != d.regions)
 rotate_left
 ·have HX := Lib.hid (show fitsB d rs cn al = false by
   unfold fitsB regionsB
   rw [decide_eq_false (by intro e; rw [e] at hq1; simp at hq1)]
   simp)
  go_wp2_with fail
  go_ret
  exact ⟨by rw [HX.out]; rfl, HDE.out ▸ BW.out⟩
 cases hq2 : ((cn : Int) != d.succs)
 rotate_left
 ·have HX := Lib.hid (show fitsB d rs cn al = false by
   unfold fitsB
   rw [show ((cn : Int) == d.succs) = false by rw [← Bool.not_eq_true', ← hq2]; rfl]
   simp)
  go_wp2_with fail
  go_ret
  exact ⟨by rw [HX.out]; rfl, HDE.out ▸ BW.out⟩
 have HQ1 := Lib.hid (show (rs.length : Int) = d.regions by simpa using hq1)
 have HQ2 := Lib.hid (show ((cn : Int) == d.succs) = true by simpa using hq2)
 go_wp2_with fail
 clear hq1 hq2 c0 c1 c2 c3 c4 c5 c6 cf p0 p1 p2 p3 p4 p5 pf
 go_loopw [5, 6] (fun fv iv wr => ∃ (m f : Nat), m ≤ al.length ∧ f ≤ m ∧ fv = .int .i64 f ∧ iv = .int .i64 m ∧ Hid (FiS d.needs al W2 m f wr)) (fun _ iv _ => al.length - (intOf iv).toNat)
 case atStart => exact ⟨0, 0, Nat.zero_le _, Nat.le_refl _, rfl, rfl, ⟨Below.refl _ _, rfl, fun j a h => absurd h (Nat.not_lt_zero _)⟩⟩
 case round =>
  obtain ⟨m, f, hmm, hfm, rfl, rfl, HF⟩ := hrel
  have T1 := Lib.hid ((HF.out.below.block _ (lt_of_block T0.out)).trans T0.out)
  have O1 := Lib.hid ((HF.out.below.block _ (lt_of_block O0.out)).trans O0.out)
  by_cases hlt : m < al.length
  rotate_left
  ·obtain rfl : m = al.length := by omega
   have HAT := Lib.hid (fits_count HND.out HF.out)
   have hge : ¬ ((al.length : Int) < (al.length : Int)) := by omega
   have BF := Lib.hid HF.out.below
   clear hlt hmm HF
   obtain ⟨p0, p1, p2, p3, p4, p5, pf⟩ := opcells6 O1.out
   go_wp2_with fail
   clear p0 p1 p2 p3 p4 p5 pf
   generalize wr = W5 at BF T1 O1 ⊢
   go_loopw [10] (fun iv wr => ∃ (n : Nat), n ≤ rs.length ∧ iv = .int .i64 n ∧ Hid (Below W5.heap.size W5 wr ∧ ∀ (j : Nat) (r : RgnD), j < n → rs[j]? = some r → fewB d r.n = true)) (fun iv _ => rs.length - (intOf iv).toNat)
   case atStart => exact ⟨0, Nat.zero_le _, rfl, Below.refl _ _, fun j a h => absurd h (Nat.not_lt_zero _)⟩
   case round =>
    obtain ⟨n, hnn, rfl, HG⟩ := hrel
    have T2 := Lib.hid ((HG.out.1.block _ (lt_of_block T1.out)).trans T1.out)
    have O2 := Lib.hid ((HG.out.1.block _ (lt_of_block O1.out)).trans O1.out)
    have B5 := Lib.hid (BF.out.trans (HG.out.1.mono BF.out.size))
    obtain ⟨c0, c1, c2, c3, c4, c5, c6, cf⟩ := dcells7 T2.out
    obtain ⟨p0, p1, p2, p3, p4, p5, pf⟩ := opcells6 O2.out
    by_cases hlt : n < rs.length
    rotate_left
    ·have hge2 : ¬ (n : Int) < (rs.length : Int) := by omega
     have HX := Lib.hid (show fitsB d rs cn al = decide (f = d.needs.length) by
      unfold fitsB regionsB
      rw [HAT.out, HQ2.out, decide_eq_true HQ1.out, List.all_eq_true.2 fun s hs => by
       obtain ⟨j, hj⟩ := List.getElem?_of_mem hs
       exact HG.out.2 j s (by have := (List.getElem?_eq_some_iff.1 hj).1; omega) hj]
      rfl)
     clear hlt hnn
     by_cases hfe : f = d.needs.length
     ·have hfb : ((f : Int) == (d.needs.length : Int)) = true := by rw [hfe]; exact beq_self_eq_true _
      have HFE := Lib.hid hfe
      clear hfe
      go_wp2_with fail
      go_ret
      exact ⟨by rw [HX.out, decide_eq_true HFE.out]; rfl, HDE.out ▸ (BW.out.trans (B5.out.mono BW.out.size))⟩
     ·have hfb : ((f : Int) == (d.needs.length : Int)) = false := beq_eq_false_iff_ne.2 (by omega)
      have HFE := Lib.hid hfe
      clear hfe
      go_wp2_with fail
      go_ret
      exact ⟨by rw [HX.out, decide_eq_false HFE.out]; rfl, HDE.out ▸ (BW.out.trans (B5.out.mono BW.out.size))⟩
    obtain ⟨bk, oo, e1, kk⟩ := RowIs.at rgn_len (HR.out.below B5.out) (List.getElem?_eq_getElem hlt)
    obtain rfl : ro = _ := e1
    have hjs := List.getElem?_eq_getElem hlt
    generalize rs[n] = r at kk hjs
    have k1 := kk 0 _ rfl
    rw [Nat.mul_one, Nat.add_zero] at k1
    clear kk
    have HJ := Lib.hid hjs
    have HLN := Lib.hid hlt
    have hlti : (n : Int) < (rs.length : Int) := by omega
    clear hlt hnn hjs
    by_cases hone : r.n ≤ 1
    ·have hg : decide ((r.n : Int) > 1) = false := decide_eq_false (by omega)
     have HFW := Lib.hid (show fewB d r.n = true by unfold fewB; rw [decide_eq_true hone]; rfl)
     clear hone
     go_wp2_with fail
     go_roundw
     case rel => exact ⟨n + 1, HLN.out, by go_num, HG.out.1, fun j y hj hy => by
       rcases Nat.lt_or_ge j n with h | h
       ·exact HG.out.2 j y h hy
       ·obtain rfl : j = n := by omega
        rw [HJ.out] at hy
        cases hy
        exact HFW.out⟩
     case measure => have := HLN.out; simp only [intOf]; omega
    have hg : decide ((r.n : Int) > 1) = true := decide_eq_true (by omega)
    have HGN := Lib.hid (decide_eq_false hone)
    clear hone
    go_wp2_with fail
    refine (RHas_any ko d.traits kc ⟨#[98, 108, 111, 99, 107, 115]⟩ (by have := HLT.out; omega) _ (HT.out.below B5.out)).mono ?_
    rintro e w9 ⟨rfl, rfl⟩
    cases hin : isIn d.traits ⟨#[98, 108, 111, 99, 107, 115]⟩
    ·have HX := Lib.hid (show fitsB d rs cn al = false by
      unfold fitsB regionsB
      rw [show rs.all (fun r : RgnD => fewB d r.n) = false from List.all_eq_false.2 ⟨r, List.mem_of_getElem? HJ.out, by unfold fewB; rw [HGN.out, show isIn d.traits blocksS = false from hin]; decide⟩]
      rfl)
     clear hin
     go_wp2_with fail
     go_ret
     exact ⟨by rw [HX.out]; rfl, HDE.out ▸ (BW.out.trans (B5.out.mono BW.out.size))⟩
    ·have HFW := Lib.hid (show fewB d r.n = true by unfold fewB; rw [show isIn d.traits blocksS = true from hin, Bool.or_true])
     clear hin
     go_wp2_with fail
     go_roundw
     case rel => exact ⟨n + 1, HLN.out, by go_num, HG.out.1, fun j y hj hy => by
       rcases Nat.lt_or_ge j n with h | h
       ·exact HG.out.2 j y h hy
       ·obtain rfl : j = n := by omega
        rw [HJ.out] at hy
        cases hy
        exact HFW.out⟩
     case measure => have := HLN.out; simp only [intOf]; omega
  obtain ⟨bk, oo, e1, kk⟩ := RowIs.at att_len (HA.out.below HF.out.below) (List.getElem?_eq_getElem hlt)
  obtain rfl : ao = _ := e1
  have hjs := List.getElem?_eq_getElem hlt
  generalize al[m]'hlt = a at kk hjs
  have k0 := kk 0 _ rfl
  have k1 := kk 1 _ rfl
  have k2 := kk 2 _ rfl
  have k3 := kk 3 _ rfl
  have k4 := kk 4 _ rfl
  have k5 := kk 5 _ rfl
  rw [Nat.add_zero] at k0
  clear kk
  have HJ := Lib.hid hjs
  have HLM := Lib.hid hlt
  have hlti : (m : Int) < (al.length : Int) := by omega
  have hfmi : (f : Int) ≤ 1048576 := by have := HAL.out; omega
  have HFM := Lib.hid hfm
  clear hlt hmm hjs hfm
  obtain ⟨p0, p1, p2, p3, p4, p5, pf⟩ := opcells6 O1.out
  have T2 := Lib.hid (heap_alloc_new wr (.cells #[.string a.name, .int .i64 a.kind, .int .i64 a.num, .string a.text, .slice a.io a.il a.ic, .slice a.so a.sl a.sc] 133))
  have L2 := Lib.hid (new_below wr (.cells #[.string a.name, .int .i64 a.kind, .int .i64 a.num, .string a.text, .slice a.io a.il a.ic, .slice a.so a.sl a.sc] 133))
  go_upto_region 8 with fail
  generalize wr.alloc (.cells #[.string a.name, .int .i64 a.kind, .int .i64 a.num, .string a.text, .slice a.io a.il a.ic, .slice a.so a.sl a.sc] 133) = W3 at T2 L2 ⊢
  generalize wr.heap.size = D2 at T2 ⊢
  clear k0 k1 k2 k3 k4 k5 p0 p1 p2 p3 p4 p5 pf
  have B3 := Lib.hid (HF.out.below.trans (L2.out.mono HF.out.below.size))
  replace T1 := Lib.hid ((L2.out.block _ (lt_of_block T1.out)).trans T1.out)
  replace O1 := Lib.hid ((L2.out.block _ (lt_of_block O1.out)).trans O1.out)
  have HSO := Lib.hid HF.out.so
  have HFI := Lib.hid HF.out.fine
  clear L2 HF
  obtain ⟨p0, p1, p2, p3, p4, p5, pf⟩ := opcells6 O1.out
  obtain ⟨a0, a1, a2, a3, a4, a5, af⟩ := opcells6 T2.out
  go_wp2_with fail
  refine (RPlace_any _ al ac a.name (by have := HAL.out; omega) W3 (HA.out.below B3.out)).mono ?_
  rintro e w9 ⟨rfl, (⟨q, b, hq1, hq2, hq3, rfl⟩ | ⟨hno, rfl⟩)⟩
  rotate_left
  ·exact absurd rfl (hno m a HJ.out)
  have hqm : q ≤ m := by
   rcases Nat.lt_or_ge m q with h | h
   ·exact absurd rfl (hq3 m a h HJ.out)
   ·exact h
  by_cases hqe : q = m
  rotate_left
  ·have hb : ((q : Int) != (m : Int)) = true := by simp; omega
   have HX := Lib.hid (fits_clash (rs := rs) (cn := cn) HND.out hq1 HJ.out (by omega) hq2)
   clear hq1 hq2 hq3 hqm hqe
   go_wp2_with fail
   go_ret
   exact ⟨by rw [HX.out]; rfl, HDE.out ▸ (BW.out.trans (B3.out.mono BW.out.size))⟩
  subst hqe
  have HP := Lib.hid hq3
  have hb : ((q : Int) != (q : Int)) = false := by simp
  clear hq1 hq2 hq3 hqm
  go_wp2_with fail
  clear hb p0 p1 p2 p3 p4 p5 pf a0 a1 a2 a3 a4 a5 af
  go_loopw [8, 9] (fun bv kv wr => ∃ (k : Nat) (g : Bool), k ≤ d.needs.length ∧ bv = .bool g ∧ kv = .int .i64 k ∧ Hid (Below W3.heap.size W3 wr ∧ g = (d.needs.take k).any (needP a))) (fun _ kv _ => d.needs.length - (intOf kv).toNat)
  case atStart => exact ⟨0, false, Nat.zero_le _, rfl, rfl, Below.refl _ _, rfl⟩
  case round =>
   obtain ⟨k, g, hkk, rfl, rfl, HK⟩ := hrel
   have T3 := Lib.hid ((HK.out.1.block _ (lt_of_block T1.out)).trans T1.out)
   have A3 := Lib.hid ((HK.out.1.block _ (lt_of_block T2.out)).trans T2.out)
   have B4 := Lib.hid (B3.out.trans (HK.out.1.mono B3.out.size))
   obtain ⟨c0, c1, c2, c3, c4, c5, c6, cf⟩ := dcells7 T3.out
   obtain ⟨a0, a1, a2, a3, a4, a5, af⟩ := opcells6 A3.out
   by_cases hlt : k < d.needs.length
   rotate_left
   ·have hge : ¬ (k : Int) < (d.needs.length : Int) := by omega
    have HOK := Lib.hid (show g = okB d.needs a by rw [HK.out.2, List.take_of_length_le (by omega)]; rfl)
    have HLE : a.name.size ≤ 9223372036854775807 := HZ.out a (List.mem_of_getElem? HJ.out)
    clear hlt hkk
    cases g
    ·by_cases h2 : 2 ≤ a.name.size
     ·have hs2 : ¬ (a.name.size : Int) < 2 := by omega
      have HP2 := Lib.hid (pre_is h2)
      have h2i : (2 : Int) ≤ (a.name.size : Int) := by omega
      clear h2
      cases hx : ((a.name.extract 0 2).toList == [120, 95])
      ·have HX := Lib.hid (fits_other (rs := rs) (cn := cn) HND.out HJ.out HOK.out.symm (by rw [HP2.out, xs_list]; exact hx))
       go_wp2_with fail
       go_ret
       exact ⟨by rw [HX.out]; rfl, HDE.out ▸ (BW.out.trans (B4.out.mono BW.out.size))⟩
      ·have HPR := Lib.hid (show startB a.name xS = true by rw [HP2.out, xs_list]; exact hx)
       go_wp2_with fail
       go_roundw
       case rel => exact ⟨q + 1, f, HLM.out, by have := HFM.out; omega, rfl, by go_num, ⟨B4.out, by rw [count_take _ HJ.out, ← HOK.out, HSO.out]; rfl, fun j y hj hy => by
         rcases Nat.lt_or_ge j q with h | h
         ·exact HFI.out j y h hy
         ·obtain rfl : j = q := by omega
          rw [HJ.out] at hy
          cases hy
          exact ⟨HP.out, .inr HPR.out⟩⟩⟩
       case measure => have := HLM.out; simp only [intOf]; omega
     ·have hs2 : (a.name.size : Int) < 2 := by omega
      have HX := Lib.hid (fits_other (rs := rs) (cn := cn) HND.out HJ.out HOK.out.symm (pre_no h2))
      clear h2
      go_wp2_with fail
      go_ret
      exact ⟨by rw [HX.out]; rfl, HDE.out ▸ (BW.out.trans (B4.out.mono BW.out.size))⟩
    ·skip
     go_wp2_with fail
     go_roundw
     case rel => exact ⟨q + 1, f + 1, HLM.out, by have := HFM.out; omega, by go_num, by go_num, ⟨B4.out, by rw [count_take _ HJ.out, ← HOK.out, HSO.out]; rfl, fun j y hj hy => by
       rcases Nat.lt_or_ge j q with h | h
       ·exact HFI.out j y h hy
       ·obtain rfl : j = q := by omega
        rw [HJ.out] at hy
        cases hy
        exact ⟨HP.out, .inl HOK.out.symm⟩⟩⟩
     case measure => have := HLM.out; simp only [intOf]; omega
   obtain ⟨bn, on, e1, kk⟩ := RowIs.at need_len (RowIs.below HN.out B4.out) (List.getElem?_eq_getElem hlt)
   obtain rfl : no = _ := e1
   have hjs := List.getElem?_eq_getElem hlt
   generalize d.needs[k]'hlt = y at kk hjs
   have n0 := kk 0 _ rfl
   have n1 := kk 1 _ rfl
   rw [Nat.add_zero] at n0
   clear kk
   have HY := Lib.hid (any_take (needP a) hjs)
   have HLK := Lib.hid hlt
   have hlti2 : (k : Int) < (d.needs.length : Int) := by omega
   clear hlt hkk hjs
   cases g
   rotate_left
   ·skip
    go_wp2_with fail
    go_quiet (fail)
    go_wp2_with fail
    go_roundw
    case rel => exact ⟨k + 1, true, HLK.out, rfl, by go_num, drawn_same HK.out.1 _, by rw [HY.out, ← HK.out.2]; rfl⟩
    case measure => have := HLK.out; simp only [intOf]; omega
   cases hne : (y.name.toList == a.name.toList)
   ·have HB := Lib.hid (show needP a y = false by unfold needP; rw [hne]; rfl)
    go_wp2_with fail
    go_quiet (fail)
    go_wp2_with fail
    go_roundw
    case rel => exact ⟨k + 1, false, HLK.out, rfl, by go_num, drawn_same HK.out.1 _, by rw [HY.out, ← HK.out.2, HB.out]; rfl⟩
    case measure => have := HLK.out; simp only [intOf]; omega
   cases hke : (y.kind == a.kind)
   ·have HB := Lib.hid (show needP a y = false by unfold needP; rw [hne, hke]; rfl)
    go_wp2_with fail
    go_quiet (fail)
    go_wp2_with fail
    go_roundw
    case rel => exact ⟨k + 1, false, HLK.out, rfl, by go_num, drawn_same HK.out.1 _, by rw [HY.out, ← HK.out.2, HB.out]; rfl⟩
    case measure => have := HLK.out; simp only [intOf]; omega
   ·have HB := Lib.hid (show needP a y = true by unfold needP; rw [hne, hke]; rfl)
    go_wp2_with fail
    go_quiet (fail)
    go_wp2_with fail
    go_roundw
    case rel => exact ⟨k + 1, true, HLK.out, rfl, by go_num, drawn_same HK.out.1 _, by rw [HY.out, ← HK.out.2, HB.out]; rfl⟩
    case measure => have := HLK.out; simp only [intOf]; omega
end Go.Proofs.YtgimdkgjfenafaaGreatDoor
namespace Go.Proofs.YtgimdkgjfenafaaGreatDoor
open Go.RowKit
theorem fitsE_bad {d : DefD} {o : OpD} (h : rightD d = false) : fitsE d o = 50 := by unfold fitsE; rw [h]; rfl
theorem fitsE_yes {d : DefD} {o : OpD} (h : rightD d = true) : fitsE d o = if fitsB d o.rs o.cn o.al = true then 0 else 61 := by unfold fitsE fitsB; rw [h]; rfl
theorem needs_nodup {d : DefD} (h : rightD d = true) : (d.needs.map (fun y : NeedD => y.name)).Nodup := by
 refine rise_nodup ?_
 unfold rightD rightNeedsL at h
 simp only [Bool.and_eq_true] at h
 exact h.1.1.1.1.1.1.1.1.2.1.2
set_option maxHeartbeats 16000000 in
set_option maxRecDepth 100000 in
theorem DialectFits_any (x : DEl) (hs : DefSmall x.d) (o : OpD) (hal : o.al.length ≤ 1048576) (hrl : o.rs.length ≤ 1048576) (w : World) (hd : DefOK w x) (ho : OpOK w o) (hE : Env w) : Calls Tryz.prog 7 #[x.val, o.val] w fun e w' => e = .returned (.bool true) ∧ Below w.heap.size w w' := by
 obtain ⟨W1, hW1⟩ : ∃ W1, W1 = w.alloc (.cells #[.string x.d.name, .slice x.io x.d.ins.length x.ic, .slice x.oo x.d.outs.length x.oc, .slice x.no x.d.needs.length x.nc, .int .i64 x.d.regions, .int .i64 x.d.succs, .slice x.ko x.d.traits.length x.kc] 41) := ⟨_, rfl⟩
 obtain ⟨W2, hW2⟩ : ∃ W2, W2 = W1.alloc (.cells #[.string o.name, .slice o.vo o.vn o.vc, .slice o.so o.sn o.sc, .slice o.ao o.al.length o.ac, .slice o.ro o.rs.length o.rc, .slice o.co o.cn o.cc] 61) := ⟨_, rfl⟩
 have T0 := Lib.hid (show W1.heap[w.heap.size]? = some (.cells #[.string x.d.name, .slice x.io x.d.ins.length x.ic, .slice x.oo x.d.outs.length x.oc, .slice x.no x.d.needs.length x.nc, .int .i64 x.d.regions, .int .i64 x.d.succs, .slice x.ko x.d.traits.length x.kc] 41 (0, 0)) from by rw [hW1]; exact heap_alloc_new _ _)
 have B1 := Lib.hid (show Below w.heap.size w W1 from by rw [hW1]; exact new_below _ _)
 have E1 : W1.heap.size = w.heap.size + 1 := by rw [hW1]; simp
 have O0 := Lib.hid (show W2.heap[w.heap.size + 1]? = some (.cells #[.string o.name, .slice o.vo o.vn o.vc, .slice o.so o.sn o.sc, .slice o.ao o.al.length o.ac, .slice o.ro o.rs.length o.rc, .slice o.co o.cn o.cc] 61 (0, 0)) from by rw [← E1, hW2]; exact heap_alloc_new _ _)
 have B2 := Lib.hid (show Below W1.heap.size W1 W2 from by rw [hW2]; exact new_below _ _)
 have BW := Lib.hid (B1.out.trans (B2.out.mono B1.out.size))
 replace T0 := Lib.hid ((B2.out.block _ (lt_of_block T0.out)).trans T0.out)
 have HD := Lib.hid (hd.below BW.out)
 have HO := Lib.hid (ho.below BW.out)
 have HE := Lib.hid (hE.below BW.out)
 have HS := Lib.hid hs
 have HAL := Lib.hid hal
 have HRL := Lib.hid hrl
 clear hs hd ho hE hal hrl E1 B1 B2
 unfold DEl.val OpD.val
 go_enter Tryz.func7, Tryz.ntmps7
 go_upto_region 1 with fail
 rw [← hW1, ← hW2]
 clear hW1 hW2
 generalize hD : w.heap.size = D at T0 O0 ⊢
 have HDE := Lib.hid hD
 clear hD
 obtain ⟨c0, c1, c2, c3, c4, c5, c6, cf⟩ := dcells7 T0.out
 obtain ⟨p0, p1, p2, p3, p4, p5, pf⟩ := opcells6 O0.out
 have HCD := Lib.hid (show ∀ X, Hid (Keeps W2 X) → X.cell? ⟨D, 0, none⟩ = some (.string x.d.name) ∧ X.cell? ⟨D, 1, none⟩ = some (.slice x.io x.d.ins.length x.ic) ∧ X.cell? ⟨D, 2, none⟩ = some (.slice x.oo x.d.outs.length x.oc) ∧ X.cell? ⟨D, 3, none⟩ = some (.slice x.no x.d.needs.length x.nc) ∧ X.cell? ⟨D, 4, none⟩ = some (.int .i64 x.d.regions) ∧ X.cell? ⟨D, 5, none⟩ = some (.int .i64 x.d.succs) ∧ X.cell? ⟨D, 6, none⟩ = some (.slice x.ko x.d.traits.length x.kc) from fun X h => ⟨h.out _ _ c0, h.out _ _ c1, h.out _ _ c2, h.out _ _ c3, h.out _ _ c4, h.out _ _ c5, h.out _ _ c6⟩)
 have HCO := Lib.hid (show ∀ X, Hid (Keeps W2 X) → X.cell? ⟨D + 1, 0, none⟩ = some (.string o.name) ∧ X.cell? ⟨D + 1, 1, none⟩ = some (.slice o.vo o.vn o.vc) ∧ X.cell? ⟨D + 1, 2, none⟩ = some (.slice o.so o.sn o.sc) ∧ X.cell? ⟨D + 1, 3, none⟩ = some (.slice o.ao o.al.length o.ac) ∧ X.cell? ⟨D + 1, 4, none⟩ = some (.slice o.ro o.rs.length o.rc) ∧ X.cell? ⟨D + 1, 5, none⟩ = some (.slice o.co o.cn o.cc) from fun X h => ⟨h.out _ _ p0, h.out _ _ p1, h.out _ _ p2, h.out _ _ p3, h.out _ _ p4, h.out _ _ p5⟩)
 have HLD : Hid (∀ X, Below W2.heap.size W2 X → Calls Tryz.prog 23 #[.agg #[.string x.d.name, .slice x.io x.d.ins.length x.ic, .slice x.oo x.d.outs.length x.oc, .slice x.no x.d.needs.length x.nc, .int .i64 x.d.regions, .int .i64 x.d.succs, .slice x.ko x.d.traits.length x.kc]] X (LDefP x X)) := fun X h => LDef_any x HS.out X (HD.out.below h)
 have HFT : Hid (∀ X, Below W2.heap.size W2 X → ∀ y : DEl, y.d = x.d → DefOK X y → Calls Tryz.prog 29 #[y.val, .agg #[.string o.name, .slice o.vo o.vn o.vc, .slice o.so o.sn o.sc, .slice o.ao o.al.length o.ac, .slice o.ro o.rs.length o.rc, .slice o.co o.cn o.cc]] X fun e w' => e = .returned (.int .i64 (fitsE x.d o)) ∧ Below X.heap.size X w') := fun X hb y hyd hyo => by
  have := Fits_any y (by rw [hyd]; exact HS.out.fit) (by rw [hyd]; have := HS.out.ln; omega) o (by have := HRL.out; omega) (by have := HAL.out; omega) HO.out.names X hyo (HO.out.rgns.below hb) (HO.out.attrs.below hb) (HE.out.below hb)
  rw [hyd] at this
  exact this
 generalize hfe : fitsE x.d o = fe at HFT
 have HFE := Lib.hid hfe
 clear hfe c0 c1 c2 c3 c4 c5 c6 cf p0 p1 p2 p3 p4 p5 pf
 refine wp_region_held_drew (S := fun w' => Hid (Keeps W2 w')) (by kernel_rfl) (fun _ _ h => h) (fun hHeld => ?_)
 have HBV := Lib.hid (show Below W2.heap.size W2 W2.drew from (Below.refl W2.heap.size W2).drew)
 generalize W2.drew = V0 at hHeld HBV ⊢
 refine wpAnyH_take (i := 0) (v := .agg #[.string x.d.name, .slice x.io x.d.ins.length x.ic, .slice x.oo x.d.outs.length x.oc, .slice x.no x.d.needs.length x.nc, .int .i64 x.d.regions, .int .i64 x.d.succs, .slice x.ko x.d.traits.length x.kc]) rfl (by kernel_rfl) (by kernel_rfl) (by kernel_rfl) (fun _ _ _ h => h) (Or.inl ⟨by rfl, ?_⟩) hHeld ?_
 ·intro w9 hSw
  obtain ⟨h0, h1, h2, h3, h4, h5, h6⟩ := HCD.out w9 hSw
  go_simp
 simp only [Act.put, sA, sC, sD, sE, sF]
 refine wpAnyH_take (i := 2) (v := .agg #[.string o.name, .slice o.vo o.vn o.vc, .slice o.so o.sn o.sc, .slice o.ao o.al.length o.ac, .slice o.ro o.rs.length o.rc, .slice o.co o.cn o.cc]) rfl (by kernel_rfl) (by kernel_rfl) (by kernel_rfl) (fun _ _ _ h => h) (Or.inl ⟨by rfl, ?_⟩) hHeld ?_
 ·intro w9 hSw
  obtain ⟨h0, h1, h2, h3, h4, h5⟩ := HCO.out w9 hSw
  go_simp
 simp only [Act.put, sA, sB, sC, sD, sE, sF]
 refine wpAnyH_ready (rs := [1]) (by kernel_rfl) (by simp) ?_
 refine AllReadyH.cons rfl (fun K hK => ?_) AllReadyH.nil
 go_simp
 go_at_call 23
 with_reducible refine (HLD.out _ HBV.out).mono ?_
 rintro e w4 ⟨hb, y, rfl, hyd, hyo⟩
 try dsimp only
 have HB4 := Lib.hid (HBV.out.trans (hb.mono HBV.out.size))
 have HF2 := Lib.hid (HFT.out _ HB4.out y hyd hyo)
 refine hK.out _ _ (show Hid (Keeps W2 w4) from hHeld.out.trans (Keeps.of_below hb)) (fun hEnd => ?_)
 clear hK K hb hHeld HLD HFT HBV hyd hyo
 have hHeld := hEnd
 clear hEnd
 try simp only [Act.put, sA, sB, sC, sD, sE, sF]
 refine wpAnyH_ready (rs := [3]) (by kernel_rfl) (by simp) ?_
 refine AllReadyH.cons rfl (fun K hK => ?_) AllReadyH.nil
 go_simp
 go_at_call 29
 with_reducible refine HF2.out.mono ?_
 rintro e w5 ⟨rfl, hb⟩
 try dsimp only
 have HB3 := Lib.hid (HB4.out.trans (hb.mono HB4.out.size))
 refine hK.out _ _ (show Hid (Keeps W2 w5) from hHeld.out.trans (Keeps.of_below hb)) (fun hEnd => ?_)
 clear hK K hb hHeld HF2 HB4
 have hHeld := hEnd
 clear hEnd
 try simp only [Act.put, sA, sB, sC, sD, sE, sF]
 refine wpAnyH_take (i := 4) (v := .int .i64 fe) rfl (by kernel_rfl) (by kernel_rfl) (by kernel_rfl) (fun _ _ _ h => h) (Or.inl ⟨by rfl, ?_⟩) hHeld ?_
 ·intro w9 hSw
  go_simp
 simp only [Act.put, sA, sB, sC, sD, sE, sF]
 refine wpAnyH_done (by kernel_rfl) ?_ _
 clear hHeld HCD HCO
 have HT3 := Lib.hid ((HB3.out.block _ (lt_of_block T0.out)).trans T0.out)
 have HO3 := Lib.hid ((HB3.out.block _ (lt_of_block O0.out)).trans O0.out)
 obtain ⟨c0, c1, c2, c3, c4, c5, c6, cf⟩ := dcells7 HT3.out
 have HRD := Lib.hid (RRightDef_any x HS.out _ (HD.out.below HB3.out))
 unfold DEl.val at HRD
 go_wp2_with fail
 refine HRD.out.mono ?_
 rintro e w6 ⟨rfl, hb⟩
 have HT6 := Lib.hid ((hb.block _ (lt_of_block HT3.out)).trans HT3.out)
 have HO6 := Lib.hid ((hb.block _ (lt_of_block HO3.out)).trans HO3.out)
 have B6 := Lib.hid (HB3.out.trans (hb.mono HB3.out.size))
 clear hb HRD HT3 HO3 HB3 c0 c1 c2 c3 c4 c5 c6 cf
 cases hr : rightD x.d
 ·obtain rfl := HFE.out.symm.trans (fitsE_bad hr)
  clear hr HFE
  go_wp2_with fail
  refine (awake5_any _ (HE.out.below B6.out)).mono ?_
  rintro e w7 ⟨rfl, hb⟩
  have B7 := Lib.hid (B6.out.trans (hb.mono B6.out.size))
  clear hb
  go_wp2_with fail
  go_ret
  exact ⟨rfl, HDE.out ▸ (BW.out.trans (B7.out.mono BW.out.size))⟩
 obtain ⟨c0, c1, c2, c3, c4, c5, c6, cf⟩ := dcells7 HT6.out
 obtain ⟨p0, p1, p2, p3, p4, p5, pf⟩ := opcells6 HO6.out
 have HRF := Lib.hid (RFits_any x.d x.io x.ic x.oo x.oc x.no x.nc x.ko x.kc HS.out.ln HS.out.lt (needs_nodup hr) o.name o.vo o.vn o.vc o.so o.sn o.sc o.ao o.al o.ac o.ro o.rs o.rc o.co o.cn o.cc HAL.out HRL.out HO.out.names w6 (RowIs.below HD.out.needs B6.out) (HD.out.traits.below B6.out) (HO.out.attrs.below B6.out) (HO.out.rgns.below B6.out))
 have HFY := Lib.hid (HFE.out.symm.trans (fitsE_yes hr))
 clear hr HFE
 generalize hfb : fitsB x.d o.rs o.cn o.al = fb at HRF HFY
 clear hfb
 go_wp2_with fail
 refine HRF.out.mono ?_
 rintro e w7 ⟨rfl, hb⟩
 have B7 := Lib.hid (B6.out.trans (hb.mono B6.out.size))
 clear hb HRF c0 c1 c2 c3 c4 c5 c6 cf p0 p1 p2 p3 p4 p5 pf
 cases fb
 ·obtain rfl := HFY.out
  clear HFY
  go_wp2_with fail
  refine (awake5_any _ (HE.out.below B7.out)).mono ?_
  rintro e w8 ⟨rfl, hb⟩
  have B8 := Lib.hid (B7.out.trans (hb.mono B7.out.size))
  clear hb
  go_wp2_with fail
  go_ret
  exact ⟨rfl, HDE.out ▸ (BW.out.trans (B8.out.mono BW.out.size))⟩
 ·obtain rfl := HFY.out
  clear HFY
  go_wp2_with fail
  refine (awake5_any _ (HE.out.below B7.out)).mono ?_
  rintro e w8 ⟨rfl, hb⟩
  have B8 := Lib.hid (B7.out.trans (hb.mono B7.out.size))
  clear hb
  go_wp2_with fail
  go_ret
  exact ⟨rfl, HDE.out ▸ (BW.out.trans (B8.out.mono BW.out.size))⟩
end Go.Proofs.YtgimdkgjfenafaaGreatDoor
