/- disk.flushed, disk.made, disk.New: a disk of sectors that are all 0. -/
import Derived.Test.YtabpfneihihmaaaDoorClone
import Derived.Test.YtabpfneihihmaaaDoorNil
import Derived.Carry
import Derived.Deep.Onto
namespace Go.Proofs.YtabpfneihihmaaaDoor
open Go.RowKit
theorem info63 : (Tryd.prog.info? 47).map (·.size) = some 2 := by kernel_rfl
set_option maxRecDepth 100000 in
set_option maxHeartbeats 1000000 in
theorem flushed_any (xs : List Value) (ad : Addr) (c : Nat) (hpos : 0 < xs.length) (hn : xs.length ≤ 4096) (h1 : ∀ u ∈ xs, u.oneCell' = true) (w : World) (hx : ∀ j u, xs[j]? = some u → w.cell? (ad.add j) = some u) :
    Calls Tryd.prog 29 #[.slice (some ad) xs.length c] w fun e w' => ∃ g cap m, e = .returned (.agg #[.slice (some ⟨g, 0, none⟩) xs.length cap, .map (some m)]) ∧ w.heap.size ≤ m ∧ w'.heap[m]? = some (.map #[] 0) ∧ w'.ownsRow w.heap.size 39 1 (.slice (some ⟨g, 0, none⟩) xs.length cap) xs.length xs ∧ Below w.heap.size w w' := by
  have HX := hid hx
  clear hx
  go_enter Tryd.func29, Tryd.ntmps29
  go_wp2_with fail
  refine (clone_any xs ad c hpos hn h1 _ (fun j u hu => by rw [World.cell?_alloc_lt _ _ _ (World.block_lt_of_cell? w _ (HX.out j u hu))]; exact HX.out j u hu)).mono ?_
  rintro e w1 ⟨g, cap, rfl, hown, hB⟩
  have hmk := fun W => run_makeMap (P := Tryd.prog) 45 W
  have hb0 := below_block hB (block_new w (.cells #[.slice none 0 0, .map none] 47)) (by simp)
  have HB0 := hid hb0
  have HOW := hid hown
  have HBB := hid hB
  clear hb0 hown hB
  go_wp2_with (refine wpList_store_block rfl 47 (.tmp 2) (.tmp 6) rfl w.heap.size #[.slice (some ⟨g, 0, none⟩) xs.length cap, .map (some w1.heap.size)] rfl rfl _ 47 (block_alloc HB0.out _) rfl info63 (by simp [Value.oneCell']) ?_; intro w2 hg2 hb2 hz2)
  refine bodyPost_ret (results_cell Tryd.results29 _ _ rfl hb2 _ Tryd.underlying47 rfl info63) rfl ⟨g, cap, w1.heap.size, rfl, ?_, ?_, ?_, ?_⟩
  · have := HBB.out.size; simp at this; omega
  · exact grown_block hg2 (block_new w1 _) (by have := lt_of_heap HB0.out; intro e; have := Option.some.inj e; omega)
  · have hgz := (HOW.out.lt g rfl).1
    refine ((HOW.out.alloc _).kept hg2 (.inr (fun e => ?_))).mono (by simp)
    have := Option.some.inj e
    simp at this hgz
    omega
  · have hw := (Below.refl w.heap.size w).alloc (Nat.le_refl _) (.cells #[.slice none 0 0, .map none] 47)
    have h1 := hw.trans (HBB.out.mono (by simp))
    exact (h1.alloc h1.size _).trans (below_of_grown hg2 (Nat.le_refl _) (h1.alloc h1.size _).size)
/-- A disk as it is made: its first sectors, no op, the same sectors safe, nothing that waits. -/
structure Fresh (w0 w : World) (p : Nat) (xs : List Value) (first : Value) : Prop where
  fields : ∃ g cap m, w.heap[p]? = some (.cells #[first, .slice none 0 0, .slice (some ⟨g, 0, none⟩) xs.length cap, .map (some m)] 49 (0, 0)) ∧ w0.heap.size ≤ m ∧ w.heap[m]? = some (.map #[] 0) ∧
    w.ownsRow w0.heap.size 39 1 (.slice (some ⟨g, 0, none⟩) xs.length cap) xs.length xs
  new : w0.heap.size ≤ p
  below : Below w0.heap.size w0 w
set_option maxRecDepth 100000 in
set_option maxHeartbeats 1000000 in
theorem made_any (xs : List Value) (ad : Addr) (c : Nat) (hpos : 0 < xs.length) (hn : xs.length ≤ 4096) (h1 : ∀ u ∈ xs, u.oneCell' = true) (w : World) (hx : ∀ j u, xs[j]? = some u → w.cell? (ad.add j) = some u) :
    Calls Tryd.prog 13 #[.slice (some ad) xs.length c] w fun e w' => ∃ p, e = .returned (.pointer (some ⟨p, 0, none⟩)) ∧ Fresh w w' p xs (.slice (some ad) xs.length c) := by
  have HX := hid hx
  clear hx
  go_enter Tryd.func13, Tryd.ntmps13
  go_wp2_with fail
  refine (flushed_any xs ad c hpos hn h1 _ HX.out).mono ?_
  rintro e w1 ⟨g, cap, m, rfl, hm, hmb, hown, hB⟩
  have HM := hid hm
  have HMB := hid hmb
  have HOW := hid hown
  have HB := hid hB
  clear hm hmb hown hB
  go_wp2
  go_ret
  refine ⟨_, rfl, ⟨g, cap, m, block_new _ _, HM.out, block_alloc HMB.out _, HOW.out.alloc _⟩, HB.out.size, HB.out.alloc HB.out.size _⟩
end Go.Proofs.YtabpfneihihmaaaDoor
