/- A group of pages: a map from numbers to slices of bytes; its numbers, rising. -/
import Derived.Test.YtoeiodiadanhkaaGreatOpen0
import Derived.Test.YtoeiodiadanhkaaGreatJoined1
namespace Go.Proofs.YtoeiodiadanhkaaGreat
open Go.RowKit Go.Maps Go.Sort Go.Shelf
/-- A group in memory: val tells what stands for a number; numbers from 0 to N - 1 alone. -/
structure GrpIn (w : World) (m B : Nat) (D : DataW Value) (N : Nat) (val : Int → Option Value) : Prop where
  mapOwn : w.ownsMap Tryz.prog 3 selfElem m B D
  absent : ∀ n, val n = none → Maps.has D (.int .i64 n) = false
  there : ∀ n v, val n = some v → Maps.has D (.int .i64 n) = true
  held : ∀ n v, val n = some v → ∀ z, D.atKey (.int .i64 n) z = .held v
  dom : ∀ n v, val n = some v → 0 ≤ n ∧ n < N
/-- Its numbers, rising. -/
def grpKeys (val : Int → Option Value) (N : Nat) : List Int := ((List.range N).map (fun k : Nat => (k : Int))).filter (fun k => (val k).isSome)
theorem mem_grpKeys {val : Int → Option Value} {N : Nat} {k : Int} : k ∈ grpKeys val N ↔ (0 ≤ k ∧ k < N ∧ (val k).isSome = true) := by
  simp only [grpKeys, List.mem_filter, List.mem_map, List.mem_range]
  constructor
  · rintro ⟨⟨j, hj, rfl⟩, h⟩
    exact ⟨by omega, by omega, h⟩
  · rintro ⟨h0, h1, h2⟩
    exact ⟨⟨k.toNat, by omega, by omega⟩, h2⟩
theorem sorted_grpKeys (val : Int → Option Value) (N : Nat) : (grpKeys val N).Pairwise (fun a b => a < b) := by
  refine List.Pairwise.filter _ (List.pairwise_map.2 (List.pairwise_lt_range.imp (fun h => by omega)))
theorem sort_grpKeys (val : Int → Option Value) (N : Nat) : (grpKeys val N).mergeSort leI = grpKeys val N :=
  List.mergeSort_of_pairwise ((sorted_grpKeys val N).imp (fun h => by simp only [leI, decide_eq_true_eq]; omega))
theorem GrpIn.keys {w : World} {m B : Nat} {D : DataW Value} {N : Nat} {val : Int → Option Value} (h : GrpIn w m B D N val) {ss : List Int} (hs : ss.Perm (intKeys D)) : ss.mergeSort leI = grpKeys val N := by
  have hk : ∀ x, x ∈ grpKeys val N ↔ has D (.int .i64 x) = true := fun x => by
    rw [mem_grpKeys]
    constructor
    · rintro ⟨_, _, hx⟩
      obtain ⟨v, hv⟩ := Option.isSome_iff_exists.1 hx
      exact h.there x v hv
    · intro hx
      cases hv : val x with
      | none => rw [h.absent x hv] at hx; cases hx
      | some v => exact ⟨(h.dom x v hv).1, (h.dom x v hv).2, rfl⟩
  obtain ⟨es, hD, hpw, _⟩ := h.mapOwn.entries (int_keyed Tryz.underlying3)
  obtain ⟨es', hD', hko⟩ := h.mapOwn.keysOf
  obtain rfl : es = es' := by rw [hD] at hD'; simpa using hD'
  have hp : (grpKeys val N).Perm (intKeys D) := by
    rw [hD] at hk ⊢
    exact perm_intKeys hpw (fun p hp => by obtain ⟨v, hv⟩ := hko p hp; obtain ⟨x, _, hx, _⟩ := Maps.keyOf_i64 Tryz.underlying3 hv; exact ⟨x, hx⟩) ((sorted_grpKeys _ _).imp (fun h => by omega)) hk
  rw [mergeSort_of_perm_i (hs.trans hp.symm), sort_grpKeys]
theorem GrpIn.keep {w w' : World} {m B : Nat} {D : DataW Value} {N : Nat} {val : Int → Option Value} (h : GrpIn w m B D N val) {F : Nat → Prop} (k : Keeps F w w') (hF : ¬ F m) : GrpIn w' m B D N val :=
  ⟨k.map h.mapOwn hF, h.absent, h.there, h.held, h.dom⟩
theorem GrpIn.below {w w' : World} {m B : Nat} {D : DataW Value} {N : Nat} {val : Int → Option Value} (h : GrpIn w m B D N val) (k : Below w.heap.size w w') : GrpIn w' m B D N val :=
  h.keep (F := fun _ => False) (Keeps.of_below k) (fun e => e)
set_option maxHeartbeats 1000000 in
theorem grp_numbers (m B : Nat) (D : DataW Value) (N : Nat) (val : Int → Option Value) (w : World) (h : GrpIn w m B D N val) (hB : B ≤ 1000000) :
    Calls Tryz.prog 75 #[.map (some m)] w fun e w' => ∃ v, e = .returned v ∧ w'.ownsRow w.heap.size 3 1 v (grpKeys val N).length ((grpKeys val N).map encZ) ∧ (v = .slice none 0 0 ↔ grpKeys val N = []) ∧ Below w.heap.size w w' := by
  refine (callsIn_wide (n := 6)).1 ?_
  have hown := h.mapOwn
  have hbl := hown.lt
  have hsz := hown.size_le
  have hmax : Maps.size D ≤ maxLen := by unfold maxLen; omega
  have hbytes : Maps.size D * 8 ≤ 140737488355328 := by omega
  have hseq : SeqGives Fence.wide 2 Tryz.prog 114 #[.pointer (some ⟨w.heap.size, 0, none⟩)] encZ (fun ss => ss.Perm (intKeys D)) (Maps.size D) (w.alloc (.cells #[.map (some m)] 81)) :=
    AnyZI.keys_gives (ρ := Tryz.keysG_ren) { Tryz.keysG with } Fence.wide _ trivial rfl (by omega) w.heap.size m B D _ (by simp) (by simp) (by
      obtain ⟨es, clock, hb, Ft, hs, hD⟩ := hown
      exact ⟨es, clock, (Below.heap_alloc _ _ m hbl).trans hb, Ft, hs, hD⟩)
  have cK : ∀ mb W, CallsIn Fence.wide 5 Tryz.prog 103 #[.map mb] W fun e w' => e = .returned (.func (.func 114) #[] #[.pointer (some ⟨W.heap.size, 0, none⟩)]) ∧ w' = W.alloc (.cells #[.map mb] 81) := fun mb W => AnyZI.keys_in Tryz.keysG Fence.wide 5 trivial rfl mb W
  have cS := AnyZI.sorted_in Tryz.sortedA Fence.wide 5 trivial trivial trivial trivial rfl (by omega) (sortsA _) (enters_of Tryz.func107 (by kernel_rfl) rfl) 114 #[.pointer (some ⟨w.heap.size, 0, none⟩)] trivial (enters_of Tryz.func114 (by kernel_rfl) rfl) _ _ hmax hbytes _ hseq
  change CallsIn _ _ Tryz.prog 95 _ _ _ at cS
  have hfK : Fence.wide.fn 103 := trivial
  have hfS : Fence.wide.fn 95 := trivial
  have H := hid h
  clear h hown hseq hsz
  refine callsIn_of_wp Tryz.func75 rfl trivial ?_ rfl
  simp only [Tryz.ntmps75, List.size_toArray, List.length_cons, List.length_nil, Nat.reduceAdd, Nat.reduceSub, Array.replicate_succ, Array.replicate_zero, List.push_toArray, List.append_toArray, List.nil_append, List.cons_append]
  gi_wp2_with (first
    | (gi_at_call 103; refine (cK _ _).mono ?_; rintro e w' ⟨rfl, rfl⟩)
    | (gi_at_call 95; refine cS.mono ?_; rintro e w' ⟨v, ss, rfl, hS, hrow, hnil, hb⟩))
  go_ret
  have hk := H.out.keys hS
  rw [hk] at hrow
  have hlen : ss.length = (grpKeys val N).length := by rw [← hk, List.length_mergeSort]
  refine ⟨v, rfl, ?_, ?_, ((Below.refl _ w).alloc (Nat.le_refl _) _).trans (hb.mono (by simp))⟩
  · rw [← hlen]; exact ownsRow_base_a hrow (by simp)
  · rw [hnil, ← List.length_eq_zero_iff, hlen, List.length_eq_zero_iff]
end Go.Proofs.YtoeiodiadanhkaaGreat
