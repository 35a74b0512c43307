/- slices.Clone at sectors: a new slice that holds the same. -/
import Derived.Test.YtabpfneihihmaaaDoorRepeat
import Derived.Deep.AppendLies
import Derived.Laws.OwnMore
namespace Go.Proofs.YtabpfneihihmaaaDoor
open Go.RowKit
theorem run_slice_in (d : Nat) (t e : TypeId) (a : Addr) (n c : Nat) (h : Tryd.prog.underlying t = some (.slice e)) (w : World) : (Op.equalIn (d + 1) t (.slice (some a) n c) (.slice none 0 0)).run Tryd.prog w = .ok false w := by
  simp [Op.equalIn, run_underlying h]
theorem run_slice_nil (t e : TypeId) (a : Addr) (n c : Nat) (h : Tryd.prog.underlying t = some (.slice e)) (w : World) : (binOp .eql t (.slice (some a) n c) (.slice none 0 0)).run Tryd.prog w = .ok (.bool false) w := by
  have he : (Op.equal t (.slice (some a) n c) (.slice none 0 0)).run Tryd.prog w = .ok false w := run_slice_in 9999 t e a n c h w
  simp only [binOp]
  simp [he]
set_option maxRecDepth 100000 in
set_option maxHeartbeats 1000000 in
theorem clone_any (xs : List Value) (ad : Addr) (c : Nat) (hpos : 0 < xs.length) (hn : xs.length ≤ 4096) (h1 : ∀ u ∈ xs, u.oneCell' = true) (w : World) (hx : ∀ j u, xs[j]? = some u → w.cell? (ad.add j) = some u) :
    Calls Tryd.prog 18 #[.slice (some ad) xs.length c] w fun e w' => ∃ g cap, e = .returned (.slice (some ⟨g, 0, none⟩) xs.length cap) ∧ w'.ownsRow w.heap.size 39 1 (.slice (some ⟨g, 0, none⟩) xs.length cap) xs.length xs ∧ Below w.heap.size w w' := by
  obtain ⟨i0, hi, hz0, hz1, hz2⟩ := info_parts infoS
  have HI := hid hi
  have HX := hid hx
  clear hi hx
  go_enter Tryd.func18, Tryd.ntmps18
  have hq := fun W => run_slice_nil 42 _ ad xs.length c Tryd.underlying42 W
  go_wp2_with (refine wpList_append_lies _ rfl (.tmp 5) (.tmp 6) 42 rfl w.heap.size 39 i0 (.string ⟨#[]⟩) 1 16 Tryd.underlying42 HI.out hz0 hz1 hz2 rfl (by omega) (.slice (some ⟨w.heap.size, 0, none⟩) 0 0) 0 [] rfl (World.ownsRow_lit w #[] 0 (Nat.le_refl _) (by simp) rfl) ad xs.length c xs rfl (by simp) (fun j u hu => by rw [World.cell?_alloc_lt _ _ _ (World.block_lt_of_cell? w _ (HX.out j u hu))]; exact HX.out j u hu) h1 hpos (by unfold maxLen; omega) (by omega) (by simp) (w.heap.size + 1) (by simp) ?_; intro g cap w1 hown hgr hat hlt)
  go_ret
  rw [List.nil_append, Nat.zero_add] at hown
  refine ⟨g, cap, rfl, hown, ?_⟩
  exact ((Below.refl _ _).alloc (Nat.le_refl _) _).trans ⟨hgr.os, hgr.tape, hgr.output, hgr.size, fun k hk => hgr.block k (by simp; omega) (by simp [Value.ownBlock]; omega)⟩
end Go.Proofs.YtabpfneihihmaaaDoor
