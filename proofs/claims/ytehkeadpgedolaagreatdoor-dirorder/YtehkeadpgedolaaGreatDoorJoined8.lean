/- Several of my texts in one: DSt, DOrdP, DOrderW. -/
import Derived.Test.YtehkeadpgedolaaGreatDoorJoined7
namespace Go.Proofs.YtehkeadpgedolaaGreatDoor
section
open Go.RowKit
structure DrAt (w W : World) (s m c : Nat) (F : Nat -> Prop) (e1 e3 : List (Nat × List UInt8)) (u : Nat) : Prop where
 low : Below w.heap.size w W
 new : ∀ i, F i -> w.heap.size <= i
 st : ∃ Pg Cm fs f1 f3, St W s m c F 100 16 Pg Cm fs 206 u /\ fs 1 = some f1 /\ f1.kind = 2 /\ f1.data = entsB e1 /\ fs 3 = some f3 /\ f3.kind = 2 /\ f3.data = entsB e3 /\ ∀ j, j ≠ 1 -> j ≠ 3 -> fs j = fsD 3 j
 ok1 : EntsOk e1
 ok3 : EntsOk e3
theorem sumC_two {fs : Nat -> Option FileA} {f1 f3 : FileA} (h1 : fs 1 = some f1) (h3 : fs 3 = some f3) (ho : ∀ j, j ≠ 1 -> j ≠ 3 -> fs j = fsD 3 j) : sumC fs 16 = f1.cnt + f3.cnt := by
 have e : ∀ j, j ≠ 1 -> j ≠ 3 -> j < 16 -> cntO (fs j) = 0 := fun j a b hj => by
  rw [ho j a b]
  have : ∀ j, j < 16 -> j ≠ 1 -> j ≠ 3 -> cntO (fsD 3 j) = 0 := by decide
  exact this j hj a b
 unfold sumC
 rw [show List.range 16 = [0, 1, 2, 3, 4, 5, 6, 7, 8, 9, 10, 11, 12, 13, 14, 15] from rfl]
 simp only [List.map_cons, List.map_nil, List.sum_cons, List.sum_nil]
 rw [e 0 (by omega) (by omega) (by omega), e 2 (by omega) (by omega) (by omega), e 4 (by omega) (by omega) (by omega), e 5 (by omega) (by omega) (by omega), e 6 (by omega) (by omega) (by omega), e 7 (by omega) (by omega) (by omega), e 8 (by omega) (by omega) (by omega), e 9 (by omega) (by omega) (by omega), e 10 (by omega) (by omega) (by omega), e 11 (by omega) (by omega) (by omega), e 12 (by omega) (by omega) (by omega), e 13 (by omega) (by omega) (by omega), e 14 (by omega) (by omega) (by omega), e 15 (by omega) (by omega) (by omega), h1, h3]
 show 0 + (f1.cnt + (0 + (f3.cnt + _))) = _
 omega
theorem need_small {k : Nat} (h : k <= 64) : needN (64 * k) <= 8 := by
 unfold needN fillN
 rw [if_neg (by omega), if_neg (by omega)]
 omega
theorem ube_small {es : List (Nat × List UInt8)} (h : es.length <= 60) : 400 + 2 * ubE es <= 3000 := by unfold ubE; omega
def addR (es : List (Nat × List UInt8)) (nm : List UInt8) (j : Nat) : Int × List (Nat × List UInt8) := if nameL nm = false then (8, es) else if (lookE es nm).isSome then (5, es) else (0, addE es j nm)
theorem addR_of {w w' : World} {s m c ino : Nat} {F : Nat -> Prop} {N : Nat} {Pg Cm : Nat -> List UInt8} {fs : Nat -> Option FileA} {o u i : Nat} {f : FileA} {es : List (Nat × List UInt8)} {nm : List UInt8} {j : Nat} {e : Ending} (h : AddTo w s m c F N ino Pg Cm fs o u i f es nm j e w') (hf : fs i = some f) (hd : f.data = entsB es) :
  Keeps F w w' /\ e = .returned (.int .i64 (addR es nm j).1) /\ ∃ Pg' f', f'.kind = f.kind /\ f'.data = entsB (addR es nm j).2 /\ St w' s m c F N ino Pg' Cm (updA fs i (some f')) o (u + (400 + 2 * ubE es)) := by
 have hup : updA fs i (some f) = fs := by
  funext k
  unfold updA
  by_cases e : k = i
  ·rw [if_pos e, e, hf]
  ·rw [if_neg e]
 obtain ⟨hk, h | h | h⟩ := h
 ·obtain ⟨h1, rfl, h3⟩ := h
  refine ⟨hk, by unfold addR; rw [if_pos h1], Pg, f, rfl, by unfold addR; rw [if_pos h1]; exact hd, by rw [hup]; exact h3⟩
 ·obtain ⟨h1, ⟨k, h2⟩, rfl, h3⟩ := h
  have e : addR es nm j = (5, es) := by unfold addR; rw [if_neg (by rw [h1]; decide), if_pos (by rw [h2]; rfl)]
  rw [e]
  exact ⟨hk, rfl, Pg, f, rfl, hd, by rw [hup]; exact h3⟩
 ·obtain ⟨h1, h2, rfl, Pg', f', h4, h5, h3⟩ := h
  have e : addR es nm j = (0, addE es j nm) := by unfold addR; rw [if_neg (by rw [h1]; decide), if_neg (by rw [h2]; decide)]
  rw [e]
  exact ⟨hk, rfl, Pg', f', h4, h5, h3⟩
theorem addR_ok {es : List (Nat × List UInt8)} {nm : List UInt8} {j : Nat} (h : EntsOk es) (hj : j < 512) (hl : es.length <= 60) : EntsOk (addR es nm j).2 /\ (addR es nm j).2.length <= es.length + 1 := by
 unfold addR
 by_cases h1 : nameL nm = false
 ·rw [if_pos h1]; exact ⟨h, Nat.le_succ _⟩
 ·rw [if_neg h1]
  have hn : nameL nm = true := by cases hh : nameL nm; exact absurd hh h1; rfl
  by_cases h2 : (lookE es nm).isSome
  ·rw [if_pos h2]; exact ⟨h, Nat.le_succ _⟩
  ·rw [if_neg h2]
   have := addE_length es j nm
   exact ⟨⟨by show (addE es j nm).length <= 1112; omega, addE_ok h.2 hj (nameL_len hn).2⟩, this⟩
theorem DrAt.up {w W W' : World} {s m c : Nat} {F : Nat -> Prop} {e1 e3 : List (Nat × List UInt8)} {u : Nat} (h : DrAt w W s m c F e1 e3 u) (hb : Below W.heap.size W W') : DrAt w W' s m c F e1 e3 u := by
 obtain ⟨Pg, Cm, fs, f1, f3, h0, h1⟩ := h.st
 exact ⟨h.low.trans (hb.mono h.low.size), h.new, ⟨Pg, Cm, fs, f1, f3, h0.below hb, h1⟩, h.ok1, h.ok3⟩
theorem DrAt.more {w W : World} {s m c : Nat} {F : Nat -> Prop} {e1 e3 : List (Nat × List UInt8)} {u u' : Nat} (h : DrAt w W s m c F e1 e3 u) (hu : u <= u') : DrAt w W s m c F e1 e3 u' := by
 obtain ⟨Pg, Cm, fs, f1, f3, h0, h1⟩ := h.st
 exact ⟨h.low, h.new, ⟨Pg, Cm, fs, f1, f3, h0.more hu, h1⟩, h.ok1, h.ok3⟩
theorem room_ok {fs : Nat -> Option FileA} {f1 f3 f : FileA} {Pg : Nat -> List UInt8} {e1 e3 es : List (Nat × List UInt8)} (hg : GoodX noSk 100 16 Pg fs) (h1 : fs 1 = some f1) (h3 : fs 3 = some f3) (ho : ∀ j, j ≠ 1 -> j ≠ 3 -> fs j = fsD 3 j) (hd1 : f1.data = entsB e1) (hd3 : f3.data = entsB e3) (k1 : EntsOk e1) (k3 : EntsOk e3) (l1 : e1.length <= 60) (l3 : e3.length <= 60) (hes : EntsOk es) (hl : es.length <= 60) (hd : f.data = entsB es) :
  needN (max (64 * freeIx es + 64) f.data.length) - f.cnt <= (freeTo (Pg 2) (3 + 16 / 8) 100 4096).length := by
 have hs := sumC_two h1 h3 ho
 have hf := hg.free
 rw [hs] at hf
 have c1 := (hg.node 1 f1 h1 (fun e => e)).2.1
 have c3 := (hg.node 3 f3 h3 (fun e => e)).2.1
 rw [hd1, length_entsB k1.2] at c1
 rw [hd3, length_entsB k3.2] at c3
 have n1 := need_small (k := e1.length) (by omega)
 have n3 := need_small (k := e3.length) (by omega)
 have hq := freeIx_le es
 have e : max (64 * freeIx es + 64) f.data.length = 64 * max (freeIx es + 1) es.length := by rw [hd, length_entsB hes.2]; omega
 have n := need_small (k := max (freeIx es + 1) es.length) (by omega)
 rw [e]
 unfold frL at hf
 omega
theorem DrAt.add1 {w W : World} {s m c : Nat} {F : Nat -> Prop} {e1 e3 : List (Nat × List UInt8)} {u : Nat} (h : DrAt w W s m c F e1 e3 u) (nm : ByteArray) (j : Nat) (hj1 : 1 <= j) (hj : j < 512) (l1 : e1.length <= 60) (l3 : e3.length <= 60) (hu : u <= 700000) :
  Calls Tryz.prog 11 #[.pointer (some ⟨s, 0, none⟩), .int .i64 1, .string nm, .int .i64 j] W fun e W' => e = .returned (.int .i64 (addR e1 nm.data.toList j).1) /\ DrAt w W' s m c F (addR e1 nm.data.toList j).2 e3 (u + 3000) := by
 obtain ⟨Pg, Cm, fs, f1, f3, h0, g1, k1, d1, g3, k3, d3, ho⟩ := h.st
 have hb := ube_small l1
 refine (dadd_all e1 nm j h.ok1 h0 g1 k1 d1 (by omega) hj1 hj (by omega) (room_ok h0.good g1 g3 ho d1 d3 h.ok1 h.ok3 l1 l3 h.ok1 l1 d1)).mono ?_
 intro e W' hA
 obtain ⟨hk, he, Pg', f', q1, q2, q3⟩ := addR_of hA g1 d1
 refine ⟨he, h.low.trans (hk.below h.low.size h.new), h.new, ⟨Pg', Cm, _, f', f3, q3.more (by omega), updA_self _ _ _, by rw [q1, k1], q2, ?_, k3, d3, fun j a b => ?_⟩, (addR_ok h.ok1 hj l1).1, h.ok3⟩
 ·unfold updA; rw [if_neg (by decide)]; exact g3
 ·unfold updA; rw [if_neg a]; exact ho j a b
theorem DrAt.add3 {w W : World} {s m c : Nat} {F : Nat -> Prop} {e1 e3 : List (Nat × List UInt8)} {u : Nat} (h : DrAt w W s m c F e1 e3 u) (nm : ByteArray) (j : Nat) (hj1 : 1 <= j) (hj : j < 512) (l1 : e1.length <= 60) (l3 : e3.length <= 60) (hu : u <= 700000) :
  Calls Tryz.prog 11 #[.pointer (some ⟨s, 0, none⟩), .int .i64 3, .string nm, .int .i64 j] W fun e W' => e = .returned (.int .i64 (addR e3 nm.data.toList j).1) /\ DrAt w W' s m c F e1 (addR e3 nm.data.toList j).2 (u + 3000) := by
 obtain ⟨Pg, Cm, fs, f1, f3, h0, g1, k1, d1, g3, k3, d3, ho⟩ := h.st
 have hb := ube_small l3
 refine (dadd_all e3 nm j h.ok3 h0 g3 k3 d3 (by omega) hj1 hj (by omega) (room_ok h0.good g1 g3 ho d1 d3 h.ok1 h.ok3 l1 l3 h.ok3 l3 d3)).mono ?_
 intro e W' hA
 obtain ⟨hk, he, Pg', f', q1, q2, q3⟩ := addR_of hA g3 d3
 refine ⟨he, h.low.trans (hk.below h.low.size h.new), h.new, ⟨Pg', Cm, _, f1, f', q3.more (by omega), ?_, k1, d1, updA_self _ _ _, by rw [q1, k3], q2, fun j a b => ?_⟩, h.ok1, (addR_ok h.ok3 hj l3).1⟩
 ·unfold updA; rw [if_neg (by decide)]; exact g1
 ·unfold updA; rw [if_neg b]; exact ho j a b
theorem DrAt.start {w W : World} {s m c : Nat} {F : Nat -> Prop} {Pg : Nat -> List UInt8} (hF : ∀ i, F i -> w.heap.size <= i) (hb : Below w.heap.size w W) (h : St W s m c F 100 16 Pg Pg (fsD 3) 206 9) : DrAt w W s m c F [] [] 9 :=
 ⟨hb, hF, ⟨Pg, Pg, fsD 3, _, _, h, rfl, rfl, rfl, rfl, rfl, rfl, fun _ _ _ => rfl⟩, ⟨by decide, by simp⟩, ⟨by decide, by simp⟩⟩
theorem DrAt.list1 {w W : World} {s m c : Nat} {F : Nat -> Prop} {e1 e3 : List (Nat × List UInt8)} {u : Nat} (h : DrAt w W s m c F e1 e3 u) (l1 : e1.length <= 60) (hu : u <= 700000) :
  Calls Tryz.prog 15 #[.pointer (some ⟨s, 0, none⟩), .int .i64 1] W fun e W' => (∃ lv, e = .returned (.tuple #[lv, .int .i64 0]) /\ RdT W' lv ((namesS e1).map fun l => ⟨l.toArray⟩) /\ ∀ ad n c, lv = .slice (some ad) n c -> W.heap.size <= ad.block) /\ (∀ i, F i -> i < W.heap.size) /\ DrAt w W' s m c F e1 e3 (u + 3000) /\ Keeps F W W' := by
 obtain ⟨Pg, Cm, fs, f1, f3, h0, g1, k1, d1, g3, k3, d3, ho⟩ := h.st
 have hb := ube_small l1
 refine (dlist_any (s := s) (i := 1) e1 h.ok1 h0 g1 k1 d1 (by omega)).mono ?_
 rintro e W' ⟨hl, hk, U, hU, h2⟩
 exact ⟨hl, h0.lt, ⟨h.low.trans (hk.below h.low.size h.new), h.new, ⟨Pg, Cm, fs, f1, f3, h2.more (by omega), g1, k1, d1, g3, k3, d3, ho⟩, h.ok1, h.ok3⟩, hk⟩
theorem DrAt.list3 {w W : World} {s m c : Nat} {F : Nat -> Prop} {e1 e3 : List (Nat × List UInt8)} {u : Nat} (h : DrAt w W s m c F e1 e3 u) (l3 : e3.length <= 60) (hu : u <= 700000) :
  Calls Tryz.prog 15 #[.pointer (some ⟨s, 0, none⟩), .int .i64 3] W fun e W' => (∃ lv, e = .returned (.tuple #[lv, .int .i64 0]) /\ RdT W' lv ((namesS e3).map fun l => ⟨l.toArray⟩) /\ ∀ ad n c, lv = .slice (some ad) n c -> W.heap.size <= ad.block) /\ (∀ i, F i -> i < W.heap.size) /\ DrAt w W' s m c F e1 e3 (u + 3000) /\ Keeps F W W' := by
 obtain ⟨Pg, Cm, fs, f1, f3, h0, g1, k1, d1, g3, k3, d3, ho⟩ := h.st
 have hb := ube_small l3
 refine (dlist_any (s := s) (i := 3) e3 h.ok3 h0 g3 k3 d3 (by omega)).mono ?_
 rintro e W' ⟨hl, hk, U, hU, h2⟩
 exact ⟨hl, h0.lt, ⟨h.low.trans (hk.below h.low.size h.new), h.new, ⟨Pg, Cm, fs, f1, f3, h2.more (by omega), g1, k1, d1, g3, k3, d3, ho⟩, h.ok1, h.ok3⟩, hk⟩
end
section
open Go.RowKit
def adN (acc : List (List UInt8)) (x : List UInt8) : List (List UInt8) := if nameL x = true /\ x ∉ acc then acc ++ [x] else acc
def adAll (l : List (List UInt8)) : List (List UInt8) := l.foldl adN []
def fives (acc : List (List UInt8)) : List (Nat × List UInt8) := acc.map fun x => (5, x)
theorem lookE_fives (acc : List (List UInt8)) (x : List UInt8) : (lookE (fives acc) x).isSome = decide (x ∈ acc) := by
 unfold lookE fives
 rw [List.findIdx?_isSome, List.any_map]
 by_cases h : x ∈ acc
 ·rw [decide_eq_true h, List.any_eq_true]
  exact ⟨x, h, by simp⟩
 ·rw [decide_eq_false h, List.any_eq_false]
  intro y hy
  simp only [Function.comp]
  have : y ≠ x := fun e => h (e ▸ hy)
  simp [this]
theorem addR_fives (acc : List (List UInt8)) (x : List UInt8) : (addR (fives acc) x 5).2 = fives (adN acc x) := by
 unfold addR adN
 have hl := lookE_fives acc x
 by_cases h1 : nameL x = true
 ·rw [if_neg (by rw [h1]; decide)]
  by_cases h2 : x ∈ acc
  ·rw [if_pos (by rw [hl, decide_eq_true h2]), if_neg (fun h => h.2 h2)]
  ·rw [if_neg (by rw [hl, decide_eq_false h2]; decide), if_pos ⟨h1, h2⟩]
   have hf : freeIx (fives acc) = acc.length := by
    have := freeIx_none (es := fives acc) (fun j hj => by
     unfold fives at hj ⊢
     rw [List.getElem_map]; exact Nat.succ_ne_zero 4)
    rw [this]; unfold fives; simp
   show addE (fives acc) 5 x = _
   unfold addE
   rw [hf]
   unfold fives
   rw [List.take_of_length_le (by simp), List.drop_of_length_le (by simp), List.map_append]
   rfl
 ·rw [if_pos (by cases h : nameL x <;> simp_all), if_neg (fun h => h1 h.1)]
theorem adN_len (acc : List (List UInt8)) (x : List UInt8) : (adN acc x).length <= acc.length + 1 := by
 unfold adN
 split
 ·rw [List.length_append, List.length_singleton]; exact Nat.le_refl _
 ·exact Nat.le_succ _
theorem adN_nodup {acc : List (List UInt8)} (h : acc.Nodup) (x : List UInt8) : (adN acc x).Nodup := by
 unfold adN
 split
 ·rename_i h1
  rw [List.nodup_append]
  exact ⟨h, by simp, fun a ha b hb => by rw [List.mem_singleton.1 hb]; exact fun e => h1.2 (e ▸ ha)⟩
 ·exact h
theorem mem_adN (acc : List (List UInt8)) (x y : List UInt8) : y ∈ adN acc x ↔ y ∈ acc \/ (y = x /\ nameL x = true) := by
 unfold adN
 split
 ·rename_i h
  rw [List.mem_append, List.mem_singleton]
  constructor
  ·rintro (h1 | h1)
   ·exact .inl h1
   ·exact .inr ⟨h1, h.1⟩
  ·rintro (h1 | h1)
   ·exact .inl h1
   ·exact .inr h1.1
 ·rename_i h
  constructor
  ·exact .inl
  ·rintro (h1 | ⟨rfl, h2⟩)
   ·exact h1
   ·exact Classical.byContradiction fun h3 => h ⟨h2, h3⟩
theorem adAll_snoc (l : List (List UInt8)) (x : List UInt8) : adAll (l ++ [x]) = adN (adAll l) x := by unfold adAll; rw [List.foldl_append]; rfl
theorem foldl_facts (l acc : List (List UInt8)) (h : acc.Nodup) : (l.foldl adN acc).Nodup /\ (∀ y, y ∈ l.foldl adN acc ↔ y ∈ acc \/ (y ∈ l /\ nameL y = true)) /\ (l.foldl adN acc).length <= acc.length + l.length := by
 induction l generalizing acc with
 | nil => exact ⟨h, fun y => by simp, by simp⟩
 | cons x l ih =>
  obtain ⟨h1, h2, h3⟩ := ih (adN acc x) (adN_nodup h x)
  refine ⟨h1, fun y => ?_, ?_⟩
  ·rw [List.foldl_cons, h2, mem_adN, List.mem_cons]
   constructor
   ·rintro ((h | ⟨rfl, h⟩) | h)
    ·exact .inl h
    ·exact .inr ⟨.inl rfl, h⟩
    ·exact .inr ⟨.inr h.1, h.2⟩
   ·rintro (h | ⟨rfl | h, h'⟩)
    ·exact .inl (.inl h)
    ·exact .inl (.inr ⟨rfl, h'⟩)
    ·exact .inr ⟨h, h'⟩
  ·have := adN_len acc x
   rw [List.foldl_cons, List.length_cons]
   omega
theorem adAll_facts (l : List (List UInt8)) : (adAll l).Nodup /\ (∀ y, y ∈ adAll l ↔ y ∈ l /\ nameL y = true) /\ (adAll l).length <= l.length := by
 obtain ⟨h1, h2, h3⟩ := foldl_facts l [] List.nodup_nil
 exact ⟨h1, fun y => by rw [show adAll l = l.foldl adN [] from rfl, h2]; simp, by rw [List.length_nil, Nat.zero_add] at h3; exact h3⟩
theorem namesK_fives (acc : List (List UInt8)) : namesK (fives acc) (fives acc).length = acc := by
 unfold namesK fives
 rw [List.take_length, List.filterMap_map]
 induction acc with
 | nil => rfl
 | cons x l ih => rw [List.filterMap_cons]; simpa using ih
theorem namesS_fives (acc : List (List UInt8)) : namesS (fives acc) = acc.mergeSort fun x y => decide (x <= y) := by unfold namesS; rw [namesK_fives]
theorem le_tr (a b c : List UInt8) : decide (a <= b) = true -> decide (b <= c) = true -> decide (a <= c) = true := fun h1 h2 => decide_eq_true (List.le_trans (of_decide_eq_true h1) (of_decide_eq_true h2))
theorem le_to (a b : List UInt8) : (decide (a <= b) || decide (b <= a)) = true := by
 rw [Bool.or_eq_true, decide_eq_true_eq, decide_eq_true_eq]
 exact List.le_total a b
theorem sorted_rev (l : List (List UInt8)) : namesS (fives (adAll l.reverse)) = namesS (fives (adAll l)) := by
 rw [namesS_fives, namesS_fives]
 obtain ⟨a1, a2, -⟩ := adAll_facts l
 obtain ⟨b1, b2, -⟩ := adAll_facts l.reverse
 refine List.Perm.eq_of_pairwise (le := fun a b => decide (a <= b) = true) (fun a b _ _ h1 h2 => List.le_antisymm (of_decide_eq_true h1) (of_decide_eq_true h2)) (List.pairwise_mergeSort le_tr le_to _) (List.pairwise_mergeSort le_tr le_to _) (((List.mergeSort_perm _ _).trans ?_).trans (List.mergeSort_perm _ _).symm)
 rw [List.perm_ext_iff_of_nodup b1 a1]
 intro y
 rw [a2, b2, List.mem_reverse]
theorem sorted_rise (l : List (List UInt8)) (i : Nat) (hi : i + 1 < (namesS (fives (adAll l))).length) : (namesS (fives (adAll l)))[i] < (namesS (fives (adAll l)))[i + 1] := by
 rw [namesS_fives] at hi
 simp only [namesS_fives]
 obtain ⟨a1, -, -⟩ := adAll_facts l
 have h1 := List.pairwise_iff_getElem.1 (List.pairwise_mergeSort (le := fun x y : List UInt8 => decide (x <= y)) le_tr le_to (adAll l)) i (i + 1) (by omega) hi (by omega)
 have h2 := List.pairwise_iff_getElem.1 ((List.mergeSort_perm (adAll l) (fun x y => decide (x <= y))).nodup_iff.2 a1) i (i + 1) (by omega) hi (by omega)
 have h1' := of_decide_eq_true h1
 exact Classical.byContradiction fun h => h2 (List.le_antisymm h1' (List.not_lt.1 h))
end
section
set_option maxRecDepth 100000
set_option maxHeartbeats 4000000
open Go.RowKit
theorem binOp_geq_str (t : TypeId) (a b : ByteArray) : binOp .geq t (.string a) (.string b) = pure (.bool !(Op.bytesLess a.toList b.toList)) := by simp [binOp, Op.stringOp]
attribute [local go_sem] binOp_geq_str
theorem take_min {α : Type} (xs : List α) {k : Nat} (h : k = xs.length \/ k = 30) (h3 : k <= 30) (_ : k <= xs.length) : xs.take k = xs.take 30 := by
 rcases h with h | h
 ·rw [List.take_of_length_le (by omega), List.take_of_length_le (by omega)]
 ·rw [h]
theorem RdT.get {w : World} {a : Option Addr} {n c : Nat} {xs : List ByteArray} (h : RdT w (.slice a n c) xs) {k : Nat} (hk : k < xs.length) : n = xs.length /\ ∃ b o, a = some ⟨b, o, none⟩ /\ w.cell? ⟨b, o + k, none⟩ = some (.string xs[k]) := by
 obtain ⟨a', c', e1, -, -, f1⟩ := h
 simp only [Value.slice.injEq] at e1
 obtain ⟨rfl, rfl, rfl⟩ := e1
 obtain ⟨b, o, e, -, hc⟩ := f1 k hk
 exact ⟨rfl, b, o, e, hc⟩
theorem dirOrder_walk (v : Value) (xs : List ByteArray) (w : World) (hr : RdT w v xs) (hV : ∃ m, w.cell? ⟨0, 0, none⟩ = some (.int .i64 m)) : Calls Tryz.prog 5 #[v] w fun e w' => e = .returned (.bool true) /\ Below w.heap.size w w' := by
 have HV : Hid (∀ W, Below w.heap.size w W -> ∃ m, W.cell? ⟨0, 0, none⟩ = some (.int .i64 m)) := fun W hb => hV.imp fun m hm => (World.cell?_of_block (w := w) (hb.block 0 (World.block_lt_of_cell? w _ hm))).trans hm
 have HR := hid hr
 obtain ⟨a, c, rfl, hc, hcm, -⟩ := hr
 have hxl : (xs.length : Int) <= 9223372036854775807 := by omega
 clear hV hcm hc
 go_enter Tryz.func5, Tryz.ntmps5
 go_wp2_with fail
 refine (l7opened_any w).mono ?_
 rintro e w1 ⟨s, m, c1, F, r, Pg, rfl, hF, hb1, hs1⟩
 have HD1 := hid (DrAt.start hF hb1 hs1)
 clear hF hs1 hb1
 go_wp2_with fail
 refine (l7live_any w1 (HV.out _ HD1.out.low)).mono ?_
 rintro e w2 ⟨rfl, hb2⟩
 have HD2 := hid (HD1.out.up hb2)
 clear hb2 HD1
 go_wp2_with fail
 go_loopw [6] (fun i wr => ∃ k : Nat, k <= xs.length /\ k <= 30 /\ i = .int .i64 k /\ Hid (DrAt w wr s m c1 F (fives (adAll ((xs.take k).map (·.data.toList)))) [] (9 + 3000 * k))) (fun i _ => xs.length - (intOf i).toNat)
 case atStart => exact ⟨0, by omega, by omega, rfl, HD2⟩
 case round =>
  obtain ⟨k, hk, hk30, rfl, HD⟩ := hrel
  clear HD2
  by_cases hlt : k < xs.length /\ k < 30
  ·obtain ⟨hlt, hk3⟩ := hlt
   have hi0 : (0 : Int) <= (k : Int) := by omega
   have hi1 : (k : Int) < (xs.length : Int) := by omega
   have hi2 : (k : Int) < 30 := by omega
   obtain ⟨-, b0, o0, rfl, d0⟩ := (HR.out.up HD.out.low).get hlt
   have htk : (xs.take (k + 1)).map (·.data.toList) = (xs.take k).map (·.data.toList) ++ [xs[k].data.toList] := by rw [List.take_succ_eq_append_getElem hlt, List.map_append]; rfl
   have hlen := (adAll_facts ((xs.take k).map (·.data.toList))).2.2
   have hAd := HD.out.add1 xs[k] 5 (by omega) (by omega) (by unfold fives; rw [List.length_map]; rw [List.length_map, List.length_take] at hlen; omega) (by decide) (by omega)
   rw [addR_fives, <- adAll_snoc, <- htk] at hAd
   have HAd := hid hAd
   generalize (addR _ _ 5).1 = z at *
   obtain ⟨x, hx⟩ : ∃ x, x = xs[k] := ⟨_, rfl⟩
   rw [<- hx] at HAd d0
   clear hAd htk hlen hx
   go_wp2_with fail
   refine HAd.out.mono ?_
   clear HAd
   rintro e w3 ⟨rfl, hd3⟩
   have hu3 : 9 + 3000 * k + 3000 = 9 + 3000 * (k + 1) := by omega
   rw [hu3] at hd3
   have HD3 := hid hd3
   clear hu3
   clear hd3 HD d0
   go_wp2
   go_roundw
   case rel => exact ⟨k + 1, by omega, by omega, by go_num, HD3⟩
   case measure => simp [intOf]; omega
  ·have hke : k = xs.length \/ k = 30 := by omega
   rw [take_min xs hke hk30 hk] at HD
   obtain ⟨L, hL⟩ : ∃ L, L = (xs.take 30).map (·.data.toList) := ⟨_, rfl⟩
   rw [<- hL] at HD
   have hLl : L.length <= 30 := by rw [hL, List.length_map, List.length_take]; omega
   have hLx : L.length <= xs.length := by rw [hL, List.length_map, List.length_take]; omega
   have HLg : Hid (∀ p, p < 30 -> ∀ hp : p < xs.length, ∃ hp2 : p < L.length, L[p] = xs[p].data.toList) := fun p hp3 hp => ⟨by rw [hL, List.length_map, List.length_take]; omega, by subst hL; rw [List.getElem_map, List.getElem_take]⟩
   have HDm := hid (HD.out.more (u' := 100000) (by omega))
   have HLl := hid hLl
   have HLx := hid hLx
   clear hL HD hLl hLx
   have hcs : (k = xs.length) \/ (k = 30 /\ 30 < xs.length) := by omega
   clear hlt hke
   rcases hcs with hcs | hcs
   case' inl =>
    have q1 : ¬ (k : Int) < (xs.length : Int) := by omega
    clear hcs
    go_wp2
   case' inr =>
    have q1 : (k : Int) < (xs.length : Int) := by omega
    have q2 : ¬ (k : Int) < 30 := by omega
    clear hcs
    go_wp2
    clear q2
   all_goals
    clear q1
    go_loopw [7] (fun iv wr => ∃ q : Nat, q <= xs.length /\ iv = .int .i64 ((q : Int) - 1) /\ Hid (DrAt w wr s m c1 F (fives (adAll L)) (fives (adAll (L.drop q).reverse)) (100000 + 3000 * (L.drop q).length))) (fun iv _ => (intOf iv + 1).toNat)
    case atStart => exact ⟨xs.length, Nat.le_refl _, rfl, by rw [List.drop_of_length_le HLx.out]; exact HDm⟩
    case round =>
     obtain ⟨q, hq, rfl, HD⟩ := hrel
     clear HDm
     cases q with
     | succ p =>
      have e0 : (((p + 1 : Nat) : Int) - 1) = (p : Int) := by omega
      rw [e0]
      have hi0 : (0 : Int) <= (p : Int) := by omega
      have hi1 : (p : Int) < (xs.length : Int) := by omega
      by_cases hp3 : p < 30
      ·have hi2 : (p : Int) < 30 := by omega
       obtain ⟨hp2, hpe⟩ := HLg.out p hp3 (by omega)
       obtain ⟨-, b0, o0, rfl, d0⟩ := (HR.out.up HD.out.low).get (show p < xs.length by omega)
       have hdr : L.drop p = L[p] :: L.drop (p + 1) := List.drop_eq_getElem_cons hp2
       have hrv : (L.drop p).reverse = (L.drop (p + 1)).reverse ++ [L[p]] := by rw [hdr, List.reverse_cons]
       have hl1 := (adAll_facts L).2.2
       have hl3 := (adAll_facts (L.drop (p + 1)).reverse).2.2
       have hLl := HLl.out
       rw [List.length_reverse, List.length_drop] at hl3
       have hAd := HD.out.add3 xs[p] 5 (by omega) (by omega) (by unfold fives; rw [List.length_map]; omega) (by unfold fives; rw [List.length_map]; omega) (by rw [List.length_drop]; omega)
       rw [<- hpe, addR_fives, <- adAll_snoc, <- hrv] at hAd
       have hu3 : 100000 + 3000 * (L.drop (p + 1)).length + 3000 = 100000 + 3000 * (L.drop p).length := by rw [List.length_drop, List.length_drop]; omega
       rw [hu3] at hAd
       have HAd := hid hAd
       generalize (addR _ _ 5).1 = z at *
       obtain ⟨x, hx⟩ : ∃ x, x = xs[p] := ⟨_, rfl⟩
       rw [<- hx] at HAd d0
       clear hAd hdr hrv hl1 hl3 hu3 hx hpe hLl hp2
       go_wp2_with fail
       refine HAd.out.mono ?_
       clear HAd
       rintro e w3 ⟨rfl, hd3⟩
       have HD3 := hid hd3
       clear hd3 HD d0
       go_wp2
       go_roundw
       case rel => exact ⟨p, by omega, rfl, HD3⟩
       case measure => simp only [intOf]; omega
      ·have hi2 : ¬ (p : Int) < 30 := by omega
       have HD3 : Hid (DrAt w wr s m c1 F (fives (adAll L)) (fives (adAll (L.drop p).reverse)) (100000 + 3000 * (L.drop p).length)) := by
        have h1 := HD.out
        have hLl := HLl.out
        rw [List.drop_of_length_le (by omega)] at h1
        unfold Hid
        rw [List.drop_of_length_le (by omega)]
        exact h1
       clear HD
       go_wp2
       go_roundw
       case rel => exact ⟨p, by omega, rfl, HD3⟩
       case measure => simp only [intOf]; omega
     | zero =>
      rw [List.drop_zero] at HD
      have hl1 := (adAll_facts L).2.2
      have hl3 := (adAll_facts L.reverse).2.2
      rw [List.length_reverse] at hl3
      have hLl := HLl.out
      have HLs := hid (HD.out.list1 (by unfold fives; rw [List.length_map]; omega) (by omega))
      have HL3 := hid (fun W (h : DrAt w W s m c1 F (fives (adAll L)) (fives (adAll L.reverse)) (100000 + 3000 * L.length + 3000)) => h.list3 (by unfold fives; rw [List.length_map]; omega) (by omega))
      rw [sorted_rev] at HL3
      obtain ⟨n1, hn1⟩ : ∃ n1, n1 = namesS (fives (adAll L)) := ⟨_, rfl⟩
      have HRi : Hid (∀ (i : Nat) (hi : i + 1 < n1.length), n1[i] < n1[i + 1]) := by subst hn1; exact sorted_rise L
      rw [<- hn1] at HLs HL3
      have HFn := hid HD.out.new
      clear HD hl1 hl3 hLl
      clear hn1
      have e0 : (((0 : Nat) : Int) - 1) = -1 := by omega
      rw [e0]
      go_wp2_with fail
      refine HLs.out.mono ?_
      clear HLs
      rintro e w3 ⟨⟨lv, rfl, hrd, hge⟩, hlt3, hd3, -⟩
      have HLs := hid (HL3.out w3 hd3)
      have HR1 := hid hrd
      have HGe := hid hge
      have HLt := hid hlt3
      obtain ⟨a1, c2, rfl, -⟩ := hrd
      obtain ⟨n, hn⟩ : ∃ n, n = (n1.map fun l => (⟨l.toArray⟩ : ByteArray)).length := ⟨_, rfl⟩
      rw [<- hn] at HR1 HGe ⊢
      have HN := hid hn
      clear hd3 HL3 hge hlt3 hn
      go_wp2_with fail
      refine HLs.out.mono ?_
      clear HLs
      rintro e w4 ⟨⟨lv, rfl, hrd, -⟩, -, hd4, hk4⟩
      have HR3 := hid hrd
      have HR1 := hid (HR1.out.keepF HGe.out HLt.out hk4)
      have HB4 := hid hd4.low
      clear hd4 hk4 HGe HLt
      obtain ⟨a3, c3, rfl, -⟩ := hrd
      rw [<- HN.out] at HR3 ⊢
      have hn := HN.out
      have hnl : (n : Int) <= 9223372036854775807 := by
       obtain ⟨_, _, e1, h2, h3, -⟩ := HR1.out
       rw [hn]; omega
      have HNn : Hid (n = n1.length) := by unfold Hid; rw [hn, List.length_map]
      clear hn
      go_wp2
      go_loopw [12] (fun iv wr => ∃ j : Nat, iv = .int .i64 ((j : Int) + 1) /\ (j + 1 <= n \/ j = 0) /\ Hid (Below w.heap.size w wr) /\ Hid (RdT wr (.slice a1 n c2) (n1.map fun l => ⟨l.toArray⟩)) /\ Hid (RdT wr (.slice a3 n c3) (n1.map fun l => ⟨l.toArray⟩))) (fun iv _ => n - (intOf iv).toNat)
      case atStart => exact ⟨0, rfl, .inr rfl, HB4, HR1, HR3⟩
      case round =>
       obtain ⟨j, rfl, hj, HB, HR1, HR3⟩ := hrel
       clear HB4
       by_cases hjn : j + 1 < n
       ·have hi1 : (j : Int) + 1 < (n : Int) := by omega
        have hi2 : (0 : Int) <= (j : Int) := by omega
        have hi3 : (j : Int) < (n : Int) := by omega
        have hs1 : (j : Int) + 1 - 1 = (j : Int) := by omega
        obtain ⟨-, b0, o0, rfl, d0⟩ := HR1.out.get (k := j) (by rw [List.length_map, <- HNn.out]; omega)
        obtain ⟨-, b1, o1, e1, d1⟩ := HR1.out.get (k := j + 1) (by rw [List.length_map, <- HNn.out]; omega)
        cases e1
        rw [List.getElem_map] at d0 d1
        have hrs := HRi.out j (by rw [<- HNn.out]; omega)
        obtain ⟨x0, hx0⟩ : ∃ x : ByteArray, x = ⟨(n1[j]'(by rw [<- HNn.out]; omega)).toArray⟩ := ⟨_, rfl⟩
        obtain ⟨x1, hx1⟩ : ∃ x : ByteArray, x = ⟨(n1[j + 1]'(by rw [<- HNn.out]; omega)).toArray⟩ := ⟨_, rfl⟩
        rw [<- hx0] at d0
        rw [<- hx1] at d1
        have hq : Op.bytesLess x0.toList x1.toList = true := by
         rw [bytesLess_eq, Lib.toList_data, Lib.toList_data, hx0, hx1]
         exact decide_eq_true (by simpa using hrs)
        have hi0 : (0 : Int) <= (j : Int) + 1 := by omega
        have hwj : IntKind.i64.wrap (j : Int) = (j : Int) := by rw [IntKind.wrap_i64]; omega
        clear hx0 hx1 hrs
        go_wp2
        go_quiet (fail)
        go_wp2
        go_roundw
        case rel => exact ⟨j + 1, by go_num, by omega, below_drewN' HB.out _, HR1.out.up (below_drewN' (Below.refl _ _) _), HR3.out.up (below_drewN' (Below.refl _ _) _)⟩
        case measure => simp [intOf]; omega
       ·have hge : ¬ (j : Int) + 1 < (n : Int) := by omega
        have HSt := hid (stexts_true _ _ _ wr HR1.out HR3.out)
        clear HR1 HR3
        go_wp2_with fail
        refine HSt.out.mono ?_
        clear HSt
        rintro e w9 ⟨rfl, hb9⟩
        have HB9 := hid (HB.out.trans (hb9.mono HB.out.size))
        clear hb9
        go_wp2
        go_ret
        exact ⟨rfl, HB9.out⟩
end
end Go.Proofs.YtehkeadpgedolaaGreatDoor
