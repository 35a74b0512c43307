/- sha.Sum returns the SHA-256 of the bytes that were handed in; what was there before is as it was. -/
import Derived.Test.YtkmmeokccmppbaaDoorHSum
namespace Go.Proofs.YtkmmeokccmppbaaDoor
open Go.RowKit
set_option maxRecDepth 100000 in
theorem lt_of_cell {w : World} {b o : Nat} {x : Value} (h : w.cell? ⟨b, o, none⟩ = some x) : b < w.heap.size := by
  unfold World.cell? at h
  cases hq : w.heap[b]? with
  | none => rw [hq] at h; simp at h
  | some o => exact lt_of_heap hq
set_option maxRecDepth 100000 in
theorem Bytes.up {w w' : World} {v : Value} {bs : List UInt8} (h : Bytes w v bs) (hb : Below w.heap.size w w') : Bytes w' v bs := by
  obtain ⟨a, cap, rfl, hc, hx⟩ := h
  refine ⟨a, cap, rfl, hc, fun j x hj => ?_⟩
  obtain ⟨b, off, rfl, hcell⟩ := hx j x hj
  exact ⟨b, off, rfl, (hb.cell (p := ⟨b, off + j, none⟩) (lt_of_cell hcell)).trans hcell⟩
set_option maxRecDepth 100000 in
theorem Bytes.off {w w' : World} {v : Value} {bs : List UInt8} (h : Bytes w v bs) (hb : Below w.heap.size w w') (p : Nat) (hp : w.heap.size ≤ p) : BytesOff w' v bs p := by
  obtain ⟨a, cap, rfl, hc, hx⟩ := h
  refine ⟨a, cap, rfl, hc, fun j x hj => ?_⟩
  obtain ⟨b, off, rfl, hcell⟩ := hx j x hj
  have hlt := lt_of_cell hcell
  exact ⟨b, off, rfl, by omega, Nat.lt_of_lt_of_le hlt hb.size, (hb.cell (p := ⟨b, off + j, none⟩) hlt).trans hcell⟩
set_option maxRecDepth 100000 in
theorem Sat.below {K : Nat} {w w' : World} (h : Sat w) (hb : Below K w w') (hK : 0 < K) : Sat w' := by
  obtain ⟨h0, h1, h2, h3, h4, h5, h6, h7⟩ := h
  exact ⟨(hb.cell (p := ⟨0, 0, none⟩) hK).trans h0, (hb.cell (p := ⟨0, 1, none⟩) hK).trans h1, (hb.cell (p := ⟨0, 2, none⟩) hK).trans h2, (hb.cell (p := ⟨0, 3, none⟩) hK).trans h3,
    (hb.cell (p := ⟨0, 4, none⟩) hK).trans h4, (hb.cell (p := ⟨0, 5, none⟩) hK).trans h5, (hb.cell (p := ⟨0, 6, none⟩) hK).trans h6, (hb.cell (p := ⟨0, 7, none⟩) hK).trans h7⟩

set_option maxRecDepth 100000 in
set_option maxHeartbeats 1000000 in
theorem sum_any (bs : List UInt8) (v : Value) (w : World) (hK : Kat w) (hS : Sat w) (hb : Bytes w v bs) (hlen : bs.length < 576460752303423488) :
    Calls Tryd.prog 18 #[v] w fun e w' => e = .returned (.agg ((sumS bs).map B).toArray) ∧ Below w.heap.size w w' := by
  have h2 := hK.lt
  obtain ⟨w0, hw0, hb0, hB0, hz0⟩ := new32 w
  have HB0 := hid hb0
  have hS0 := hid (hS.below hB0 (by omega))
  have hK0 := hid (hK.below hB0 h2)
  have hz0' : w.heap.size < w0.heap.size := by omega
  have HB := hid hb
  clear hb0 hz0 hS hb
  go_enter Tryd.func18, Tryd.ntmps18
  go_wp2_with fail
  rw [← hw0]
  clear hw0
  refine (new_any w0 hS0.out).mono ?_
  rintro e w1 ⟨rfl, hF1, hB1, hz1⟩
  have hl2 : w0.heap.size < w1.heap.size := by omega
  have HF1 := hid hF1
  have HK1 := hid (hK0.out.below hB1 (by omega))
  have HBO := hid (HB.out.off (hB0.trans (hB1.mono (by omega))) w0.heap.size (by omega))
  clear hF1 hz1
  go_wp2_with fail
  refine (write_any w0.heap.size [] bs _ w1 HK1.out (by omega) HF1.out HBO.out (by simp; omega)).mono ?_
  rintro e w2 ⟨rfl, hg2, hH2⟩
  rw [List.nil_append] at hH2
  have HH2 := hid hH2
  have HK2 := hid (HK1.out.grown hg2 (by omega))
  have HG2 := hid hg2
  clear hH2 hg2
  go_wp2_with fail
  refine (hsum_any w0.heap.size bs w2 HK2.out HH2.out hlen).mono ?_
  rintro e w4 ⟨rfl, hB4⟩
  have hR : w4.heap[w.heap.size]? = some (.cells ((List.replicate 32 (0 : UInt8)).map B).toArray 26 (0, 0)) := by
    have h1 := below_block hB1 HB0.out (by omega)
    have h3 := grown_block HG2.out h1 (by simp; omega)
    exact below_block hB4 h3 (lt_of_heap h3)
  have hs26 : ((sumS bs).map B).toArray.size = 32 := by simp [length_sumS]
  have HR := hid hR
  have Hs := hid hs26
  have hBall : Below w.heap.size w w4 := by
    have q1 := hB0.trans (hB1.mono (by omega))
    have q3 := q1.trans (below_of_grown (K := w.heap.size) HG2.out (by omega) (by omega))
    exact q3.trans (hB4.mono (by have := HG2.out.size; omega))
  have HBall := hid hBall
  clear hR hs26 hBall
  go_wp2_with (refine wpList_store_block rfl 26 (.tmp 2) (.tmp 9) rfl w.heap.size ((sumS bs).map B).toArray rfl rfl _ 26 HR.out (Hs.out.trans size32.symm) (info26.trans (congrArg some Hs.out.symm)) (all_oneCell_toArray (B_one _)) ?_; intro w5 hg5 hb5 hz5)
  refine bodyPost_ret (results_cell Tryd.results18 _ _ rfl hb5 _ Tryd.underlying26 rfl (info26.trans (congrArg some Hs.out.symm))) rfl ⟨rfl, ?_⟩
  exact HBall.out.trans (below_of_grown hg5 (Nat.le_refl _) HBall.out.size)
end Go.Proofs.YtkmmeokccmppbaaDoor
