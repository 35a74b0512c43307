/- Cached, of one page. -/
import Derived.Test.YtjgclmlclkfgpaaGreatBCom
namespace Go.Proofs.YtjgclmlclkfgpaaGreat
open Go.RowKit Go.Maps Go.Sort Go.Shelf
set_option maxRecDepth 100000 in
theorem bitsLen64_one (w : World) : Calls Tryz.prog 149 #[.int .u64 1] w fun e w' => e = .returned (.int .i64 1) ∧ w' = w := by
  go_enter Tryz.func149, Tryz.ntmps149
  go_wp2
  go_ret
  exact ⟨by kernel_rfl, rfl⟩
set_option maxRecDepth 100000 in
theorem bitsLen_one (w : World) : Calls Tryz.prog 125 #[.int .u64 1] w fun e w' => e = .returned (.int .i64 1) ∧ w' = w := by
  have HL := hid (bitsLen64_one w)
  go_enter Tryz.func125, Tryz.ntmps125
  go_wp2_with fail
  refine HL.out.mono ?_
  rintro e w' ⟨rfl, rfl⟩
  go_wp2
  go_ret
  exact ⟨rfl, rfl⟩
set_option maxRecDepth 100000 in
theorem insF_one (v f : Value) (w : World) : Calls Tryz.prog 153 #[v, .int .i64 0, .int .i64 1, f] w fun e w' => e = .returned (.tuple #[]) ∧ w' = w := by
  go_enter Tryz.func153, Tryz.ntmps153
  go_wp2
  go_loopw [8] (fun i wr => i = .int .i64 1 ∧ wr = w) (fun _ _ => 0)
  case atStart => exact ⟨rfl, rfl⟩
  case round =>
    obtain ⟨rfl, rfl⟩ := hrel
    go_wp2
    go_end0
    exact ⟨rfl, rfl⟩
set_option maxRecDepth 100000 in
theorem pdqF_one (v f : Value) (w : World) : Calls Tryz.prog 138 #[v, .int .i64 0, .int .i64 1, .int .i64 1, f] w fun e w' => e = .returned (.tuple #[]) ∧ w' = w := by
  have HI := hid (insF_one v f w)
  go_enter Tryz.func138, Tryz.ntmps138
  go_wp2
  go_loopw [1, 2, 3] (fun a b c wr => a = .int .i64 0 ∧ b = .int .i64 1 ∧ wr = w) (fun _ _ _ _ => 0)
  case atStart => exact ⟨rfl, rfl, rfl⟩
  case round =>
    obtain ⟨rfl, rfl, rfl⟩ := hrel
    go_wp2_with fail
    refine HI.out.mono ?_
    rintro e w' ⟨rfl, rfl⟩
    go_wp2
    refine bodyPost_ret (results_none rfl _ _ _) rfl ?_
    exact ⟨rfl, rfl⟩
set_option maxRecDepth 100000 in
theorem sortFuncI_one (a : Option Addr) (c : Nat) (f : Value) (w : World) : Calls Tryz.prog 120 #[.slice a 1 c, f] w fun e w' => e = .returned (.tuple #[]) ∧ w' = w := by
  have HL := hid (bitsLen_one w)
  have HP := hid (pdqF_one (.slice a 1 c) f w)
  go_enter Tryz.func120, Tryz.ntmps120
  go_wp2_with fail
  refine HL.out.mono ?_
  rintro e w' ⟨rfl, rfl⟩
  go_wp2_with fail
  refine HP.out.mono ?_
  rintro e w' ⟨rfl, rfl⟩
  go_wp2
  go_end0
  exact ⟨rfl, rfl⟩
theorem sortedFunc_one (lb : Array Value) (f : Value) (D : DataW Value) (x : Int) (W : World) (hseq : SeqGives Fence.wide 2 Tryz.prog 121 lb encZ (fun ss => ss.Perm (intKeys D)) (Maps.size D) W) (hk : intKeys D = [x]) (hs : Maps.size D ≤ 4096) :
    Calls Tryz.prog 83 #[.func (.func 121) #[] lb, f] W fun e w' => ∃ v, e = .returned v ∧ w'.ownsRow W.heap.size 3 1 v 1 [encZ x] ∧ Below W.heap.size W w' := by
  have cC := AnyZI.collect_in { Tryz.sortedA with } Fence.wide 4 trivial trivial rfl (by omega) 121 lb trivial (enters_of Tryz.func121 (by kernel_rfl) rfl) _ _ (by unfold maxLen; omega) (by omega) _ hseq
  have hC := callsIn_wide.1 cC
  change Calls Tryz.prog 87 _ _ _ at hC
  have HC := hid hC
  have HS := hid (fun a c W => sortFuncI_one a c f W)
  clear cC hC hseq
  go_enter Tryz.func83, Tryz.ntmps83
  go_wp2_with fail
  refine HC.out.mono ?_
  clear HC
  rintro e w1 ⟨v, ss, rfl, hS, hrow, hnil, hb⟩
  obtain rfl : ss = [x] := by rw [hk] at hS; exact List.perm_singleton.1 hS
  have hrow' : w1.ownsRow W.heap.size 3 1 v 1 [encZ x] := hrow
  obtain ⟨g, cap, rfl, -, -⟩ := hrow'.form (by omega)
  have HR := hid hrow'
  have HB := hid hb
  clear hrow hrow' hnil hb hS
  go_wp2_with fail
  refine (HS.out _ _ _).mono ?_
  rintro e w' ⟨rfl, rfl⟩
  go_wp2
  go_ret
  exact ⟨_, rfl, HR.out, HB.out⟩
section
variable {c : Nat} {L : CLay} {C : CS}
set_option maxRecDepth 100000 in
set_option maxHeartbeats 1000000 in
theorem binOrder_one (x : Int) (w : World) (h : CacheAt w c L C) (hx : intKeys L.Du = [x]) :
    Calls Tryz.prog 47 #[.pointer (some ⟨c, 2, none⟩)] w fun e w' => ∃ v, e = .returned v ∧ w'.ownsRow w.heap.size 3 1 v 1 [encZ x] ∧ Below w.heap.size w w' := by
  obtain ⟨-, -, -, -, c4⟩ := h.cells
  have hcl := lt_of_heap h.heap
  obtain ⟨wA, hA⟩ : ∃ wA, wA = w.alloc (.cells #[.pointer (some ⟨c, 2, none⟩)] 133) := ⟨_, rfl⟩
  have hbA : Below w.heap.size w wA := by rw [hA]; exact (Below.refl _ w).alloc (Nat.le_refl _) _
  have hown := (h.below hbA).used.mapOwn
  have hbl := hown.lt
  have hsz := hown.size_le
  have hseq : SeqGives Fence.wide 2 Tryz.prog 121 #[.pointer (some ⟨wA.heap.size, 0, none⟩)] encZ (fun ss => ss.Perm (intKeys L.Du)) (Maps.size L.Du) (wA.alloc (.cells #[.map (some L.um)] 81)) :=
    AnyZI.keys_gives (ρ := Tryz.keysU_ren) { Tryz.keysU with } Fence.wide _ trivial rfl (by omega) wA.heap.size L.um 4096 L.Du _ (by simp) (by simp) (by
      obtain ⟨es, clock, hb, Ft, hs, hD⟩ := hown
      exact ⟨es, clock, (Below.heap_alloc _ _ L.um hbl).trans hb, Ft, hs, hD⟩)
  have cK : ∀ mb W, Calls Tryz.prog 84 #[.map mb] W fun e w' => e = .returned (.func (.func 121) #[] #[.pointer (some ⟨W.heap.size, 0, none⟩)]) ∧ w' = W.alloc (.cells #[.map mb] 81) := fun mb W => callsIn_wide.1 (AnyZI.keys_in Tryz.keysU Fence.wide 5 trivial rfl mb W)
  have HK := hid cK
  have HS := hid (fun f => sortedFunc_one #[.pointer (some ⟨wA.heap.size, 0, none⟩)] f L.Du x _ hseq hx hsz)
  have HB := hid hbA
  have HA := hid hA
  have cc : wA.cell? ⟨c, 4, none⟩ = some (.map (some L.um)) := (hbA.cell (p := ⟨c, 4, none⟩) hcl).trans c4
  have cA : wA.cell? ⟨w.heap.size, 0, none⟩ = some (.pointer (some ⟨c, 2, none⟩)) := by rw [hA]; exact cell_of_block (block_new w _) 0
  clear h hown hbl hsz hseq cK hbA hx
  go_enter Tryz.func47, Tryz.ntmps47
  go_upto_region 1 with (fail)
  rw [← hA]
  clear hA
  go_wp2_with fail
  refine (HK.out _ _).mono ?_
  rintro e w1 ⟨rfl, rfl⟩
  go_wp2_with fail
  refine (HS.out _).mono ?_
  rintro e w2 ⟨v, rfl, hrow, hb⟩
  have HR := hid hrow
  have HB2 := hid hb
  clear hrow hb
  go_wp2
  go_ret
  have hb1 : Below w.heap.size w (wA.alloc (.cells #[.map (some L.um)] 81)) := HB.out.alloc HB.out.size _
  exact ⟨v, rfl, World.ownsRow.mono HR.out hb1.size, hb1.trans (HB2.out.mono hb1.size)⟩
set_option maxRecDepth 100000 in
/-- Cached, of one page. -/
theorem bcached_one (x : Int) (w : World) (h : CacheAt w c L C) (hx : intKeys L.Du = [x]) :
    Calls Tryz.prog 11 #[.pointer (some ⟨c, 0, none⟩)] w fun e w' => ∃ g cap, e = .returned (.slice (some ⟨g, 0, none⟩) 1 cap) ∧ w.heap.size ≤ g ∧ w'.cell? ⟨g, 0, none⟩ = some (.int .i64 x) ∧ Below w.heap.size w w' := by
  have HI := hid (binOrder_one x w h hx)
  clear h hx
  go_enter Tryz.func11, Tryz.ntmps11
  go_wp2_with fail
  refine HI.out.mono ?_
  clear HI
  rintro e w1 ⟨v, rfl, hrow, hb⟩
  obtain ⟨g, cap, rfl, -, -⟩ := hrow.form (by omega)
  have hc : w1.cell? ⟨g, 0, none⟩ = some (.int .i64 x) := hrow.cellAt 0 (by omega)
  have HC := hid hc
  have HB := hid hb
  have HG := hid (hrow.lt g rfl).1
  clear hc hb hrow
  go_wp2
  go_ret
  exact ⟨g, cap, rfl, HG.out, HC.out, HB.out⟩
end
end Go.Proofs.YtjgclmlclkfgpaaGreat
