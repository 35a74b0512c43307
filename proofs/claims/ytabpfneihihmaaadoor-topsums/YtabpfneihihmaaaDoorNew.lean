/- disk.New: a disk of sectors that are all 0, or none. -/
import Derived.Test.YtabpfneihihmaaaDoorMade
namespace Go.Proofs.YtabpfneihihmaaaDoor
open Go.RowKit
/-- A sector that is 0 everywhere. -/
def blankS : ByteArray := ⟨(Lib.repeatL [0] 512).toArray⟩
set_option maxRecDepth 100000 in
set_option maxHeartbeats 1000000 in
theorem new_ok (n : Nat) (h1 : 1 ≤ n) (hn : n ≤ 4096) (w : World) :
    Calls Tryd.prog 4 #[.int .i64 n] w fun e w' => ∃ p first, e = .returned (.tuple #[.pointer (some ⟨p, 0, none⟩), .int .i64 0]) ∧ (∃ b, first = .slice (some ⟨b, 0, none⟩) n n ∧ w.heap.size ≤ b ∧ w'.heap[b]? = some (.cells (List.replicate n (Value.string blankS)).toArray 39 (0, 0))) ∧ Fresh w w' p (List.replicate n (.string blankS)) first := by
  have hd : decide (1 ≤ (n : Int) ∧ (n : Int) ≤ 4096) = true := decide_eq_true ⟨by omega, by omega⟩
  have HD := hid hd
  clear hd
  go_enter Tryd.func4, Tryd.ntmps4
  go_wp2_with fail
  refine (isSize_any _ _).mono ?_
  rintro e w9 ⟨rfl, h9⟩
  obtain rfl := h9.symm
  rw [HD.out]
  go_wp2_with fail
  refine (Tryd.strings_Repeat ⟨#[0]⟩ 512 _ (by omega) (by decide)).mono ?_
  rintro e w1 ⟨rfl, hB1⟩
  have HB1 := hid hB1
  clear hB1
  go_wp2_with fail
  refine (repeat_one blankS w1.heap.size n h1 hn _ (by rw [cell_of_block (block_new w1 _)]; rfl)).mono ?_
  rintro e w2 ⟨rfl, hb2, hB2⟩
  have hz : (w1.alloc (.cells #[.string ⟨(Lib.repeatL [0] 512).toArray⟩] 39)).heap.size = w1.heap.size + 1 := by simp
  rw [hz] at hb2
  have HBa := hid ((HB1.out.alloc HB1.out.size (.cells #[.string ⟨(Lib.repeatL [0] 512).toArray⟩] 39)).trans (hB2.mono (HB1.out.alloc HB1.out.size _).size))
  have Hb2 := hid hb2
  have hl : (List.replicate n (Value.string blankS)).length = n := by simp
  have hmade := made_any (List.replicate n (Value.string blankS)) ⟨w1.heap.size + 1, 0, none⟩ n (by rw [hl]; omega) (by rw [hl]; exact hn) (by intro u hu; rw [List.eq_of_mem_replicate hu]; rfl) w2
    (fun j u hu => by rw [Addr.add_mid, Nat.zero_add, cell_of_block Hb2.out, List.getElem?_toArray]; exact hu)
  rw [hl] at hmade
  have HMade := hid hmade
  have HL := hid hl
  clear hB2 hb2 hmade hl hz
  go_wp2_with fail
  refine HMade.out.mono ?_
  rintro e w3 ⟨p, rfl, hF⟩
  have HF := hid hF
  clear hF
  go_wp2
  go_returns
  have hz1 := HBa.out.size
  have hz2 := HB1.out.size
  refine ⟨p, .slice (some ⟨w1.heap.size + 1, 0, none⟩) n n, rfl, ⟨w1.heap.size + 1, rfl, by omega, below_block HF.out.below Hb2.out (lt_of_heap Hb2.out)⟩, ?_⟩
  obtain ⟨⟨g, cap, m, f1, f2, f3, f4⟩, fn, fb⟩ := HF.out
  exact ⟨⟨g, cap, m, f1, by omega, f3, f4.mono hz1⟩, by omega, HBa.out.trans (fb.mono hz1)⟩
theorem new_bad (n : Int) (h : ¬ (1 ≤ n ∧ n ≤ 4096)) (w : World) : Calls Tryd.prog 4 #[.int .i64 n] w fun e w' => e = .returned (.tuple #[.pointer none, .int .i64 2]) ∧ w' = w := by
  have HD := hid (decide_eq_false h)
  go_enter Tryd.func4, Tryd.ntmps4
  go_wp2_with fail
  refine (isSize_any _ _).mono ?_
  rintro e w9 ⟨rfl, h9⟩
  obtain rfl := h9.symm
  rw [HD.out]
  go_wp2
  go_returns
  exact ⟨rfl, rfl⟩
end Go.Proofs.YtabpfneihihmaaaDoor
