/- plates.waiting: the sectors that wait, rising. -/
import Derived.Test.YtabpfneihihmaaaDoorDisk
import Derived.Test.YtabpfneihihmaaaDoorIter
import Derived.Shelf.AbstractIn
namespace Go.Proofs.YtabpfneihihmaaaDoor
open Go.RowKit Go.Maps Go.Sort Go.Shelf
/-- The sectors that wait, rising. -/
def waitKeys (waits : Int → List ByteArray) (N : Nat) : List Int := ((List.range N).map (fun k : Nat => (k : Int))).filter (fun k => !(waits k).isEmpty)
theorem mem_waitKeys {waits : Int → List ByteArray} {N : Nat} {k : Int} : k ∈ waitKeys waits N ↔ (0 ≤ k ∧ k < N ∧ waits k ≠ []) := by
  simp only [waitKeys, List.mem_filter, List.mem_map, List.mem_range]
  constructor
  · rintro ⟨⟨j, hj, rfl⟩, h⟩
    refine ⟨by omega, by omega, ?_⟩
    simpa using h
  · rintro ⟨h0, h1, h2⟩
    exact ⟨⟨k.toNat, by omega, by omega⟩, by simpa using h2⟩
theorem sorted_waitKeys (waits : Int → List ByteArray) (N : Nat) : (waitKeys waits N).Pairwise (fun a b => a < b) := by
  refine List.Pairwise.filter _ (List.pairwise_map.2 (List.pairwise_lt_range.imp (fun h => by omega)))
theorem sort_waitKeys (waits : Int → List ByteArray) (N : Nat) : (waitKeys waits N).mergeSort leI = waitKeys waits N :=
  List.mergeSort_of_pairwise ((sorted_waitKeys waits N).imp (fun h => by simp only [leI, decide_eq_true_eq]; omega))
theorem PlatesIn.keys {w : World} {L : PL} {safe : List ByteArray} {waits : Int → List ByteArray} {B : Nat} (h : PlatesIn w L safe waits B) {ss : List Int} (hs : ss.Perm (intKeys L.D)) : ss.mergeSort leI = waitKeys waits safe.length := by
  have hk : ∀ x, x ∈ waitKeys waits safe.length ↔ has L.D (.int .i64 x) = true := fun x => by
    rw [mem_waitKeys]
    constructor
    · rintro ⟨_, _, hx⟩; exact h.there x hx
    · intro hx
      have hne : waits x ≠ [] := fun e => by rw [h.absent x e] at hx; cases hx
      exact ⟨(h.dom x hne).1, (h.dom x hne).2, hne⟩
  obtain ⟨es, hD, hpw, _⟩ := h.mapOwn.entries (int_keyed Tryd.underlying3)
  obtain ⟨es', hD', hko⟩ := h.mapOwn.keysOf
  obtain rfl : es = es' := by rw [hD] at hD'; simpa using hD'
  have hp : (waitKeys waits safe.length).Perm (intKeys L.D) := by
    rw [hD] at hk ⊢
    exact perm_intKeys hpw (fun p hp => by obtain ⟨v, hv⟩ := hko p hp; obtain ⟨x, _, hx, _⟩ := Maps.keyOf_i64 Tryd.underlying3 hv; exact ⟨x, hx⟩) ((sorted_waitKeys _ _).imp (fun h => by omega)) hk
  rw [mergeSort_of_perm_i (hs.trans hp.symm), sort_waitKeys]
theorem sortsA (m : Nat) : AnyZI.SortsIn Tryd.prog Tryd.sortedA_ren Fence.wide m :=
  ⟨fun blk off cap ss W hH hblk hsz => callsIn_wide.2 (Tryd.slices_Sort_int blk off cap ss W hH hblk hsz),
   fun p cap W => callsIn_wide.2 (Tryd.slices_Sort_int_none p cap W)⟩
set_option maxHeartbeats 1000000 in
theorem waiting_any (p : Nat) (L : PL) (safe : List ByteArray) (waits : Int → List ByteArray) (B : Nat) (w : World) (hc : w.cell? ⟨p, 3, none⟩ = some (.map (some L.m))) (h : PlatesIn w L safe waits B) (hB : B ≤ opsMax) :
    Calls Tryd.prog 17 #[.pointer (some ⟨p, 2, none⟩)] w fun e w' => ∃ v, e = .returned v ∧ w'.ownsRow w.heap.size 3 1 v (waitKeys waits safe.length).length ((waitKeys waits safe.length).map encZ) ∧ (v = .slice none 0 0 ↔ waitKeys waits safe.length = []) ∧ Below w.heap.size w w' := by
  refine (callsIn_wide (n := 6)).1 ?_
  have hown := h.mapOwn
  have hbl := hown.lt
  have hsz := hown.size_le
  have hmax : Maps.size L.D ≤ maxLen := by unfold opsMax at hB; unfold maxLen; omega
  have hbytes : Maps.size L.D * 8 ≤ 140737488355328 := by unfold opsMax at hB; omega
  have hseq : SeqGives Fence.wide 2 Tryd.prog 44 #[.pointer (some ⟨w.heap.size, 0, none⟩)] encZ (fun ss => ss.Perm (intKeys L.D)) (Maps.size L.D) (w.alloc (.cells #[.map (some L.m)] 45)) :=
    AnyZI.keys_gives (ρ := Tryd.keysA_ren) { Tryd.keysA with } Fence.wide _ trivial rfl (by omega) w.heap.size L.m B L.D _ (by simp) (by simp) (by
      obtain ⟨es, clock, hb, Ft, hs, hD⟩ := hown
      exact ⟨es, clock, (Below.heap_alloc _ _ L.m hbl).trans hb, Ft, hs, hD⟩)
  have cK : ∀ mb W, CallsIn Fence.wide 5 Tryd.prog 32 #[.map mb] W fun e w' => e = .returned (.func (.func 44) #[] #[.pointer (some ⟨W.heap.size, 0, none⟩)]) ∧ w' = W.alloc (.cells #[.map mb] 45) := fun mb W => AnyZI.keys_in Tryd.keysA Fence.wide 5 trivial rfl mb W
  have cS := AnyZI.sorted_in Tryd.sortedA Fence.wide 5 trivial trivial trivial trivial rfl (by omega) (sortsA _) (enters_of Tryd.func43 (by kernel_rfl) rfl) 44 #[.pointer (some ⟨w.heap.size, 0, none⟩)] trivial (enters_of Tryd.func44 (by kernel_rfl) rfl) _ _ hmax hbytes _ hseq
  change CallsIn _ _ Tryd.prog 31 _ _ _ at cS
  have hfK : Fence.wide.fn 32 := trivial
  have hfS : Fence.wide.fn 31 := trivial
  have H := hid h
  clear h hown hseq hsz
  refine callsIn_of_wp Tryd.func17 rfl trivial ?_ rfl
  simp only [Tryd.ntmps17, List.size_toArray, List.length_cons, List.length_nil, Nat.reduceAdd, Nat.reduceSub, Array.replicate_succ, Array.replicate_zero, List.push_toArray, List.append_toArray, List.nil_append, List.cons_append]
  gi_wp2_with (first
    | (gi_at_call 32; refine (cK _ _).mono ?_; rintro e w' ⟨rfl, rfl⟩)
    | (gi_at_call 31; refine cS.mono ?_; rintro e w' ⟨v, ss, rfl, hS, hrow, hnil, hb⟩))
  go_ret
  have hk := H.out.keys hS
  rw [hk] at hrow
  have hlen : ss.length = (waitKeys waits safe.length).length := by rw [← hk, List.length_mergeSort]
  refine ⟨v, rfl, ?_, ?_, ((Below.refl _ w).alloc (Nat.le_refl _) _).trans (hb.mono (by simp))⟩
  · rw [← hlen]; exact ownsRow_base_a hrow (by simp)
  · rw [hnil, ← List.length_eq_zero_iff, hlen, List.length_eq_zero_iff]
end Go.Proofs.YtabpfneihihmaaaDoor
