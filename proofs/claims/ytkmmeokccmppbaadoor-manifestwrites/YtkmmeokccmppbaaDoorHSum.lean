/- Hasher.Sum and sha.Sum return the SHA-256 of the bytes that were taken, that were handed in; what was there before is as it was; of nil: 32 noughts. -/
import Derived.Test.YtkmmeokccmppbaaDoorWrite
namespace Go.Proofs.YtkmmeokccmppbaaDoor
open Go.RowKit
set_option maxRecDepth 100000 in
theorem HasherAt.below {K : Nat} {w w' : World} {p : Nat} {bs : List UInt8} (h : HasherAt w p bs) (hb : Below K w w') (hp : p < K) : HasherAt w' p bs := by
  obtain ⟨rs, h1, h2, h3⟩ := h
  exact ⟨rs, h1, h2, below_block hb h3 hp⟩
set_option maxRecDepth 100000 in
theorem HasherAt.lt {w : World} {p : Nat} {bs : List UInt8} (h : HasherAt w p bs) : p < w.heap.size := by
  obtain ⟨rs, h1, h2, h3⟩ := h
  exact lt_of_heap h3
set_option maxRecDepth 100000 in
theorem HasherAt.size {w : World} {p : Nat} {bs : List UInt8} (h : HasherAt w p bs) : w.cell? ⟨p, 72, none⟩ = some (.int .i64 bs.length) := by
  obtain ⟨rs, h64, _, hb⟩ := h
  rw [cell_of_block hb]; exact hc_last _ _ _ h64
set_option maxRecDepth 100000 in
theorem HasherAt.run {w : World} {p : Nat} {bs : List UInt8} (h : HasherAt w p bs) : ∃ s, s = blocksS bs (bs.length / 64) ∧ w.cell? ⟨p, 0, none⟩ = some (W s.a) ∧ w.cell? ⟨p, 1, none⟩ = some (W s.b) ∧ w.cell? ⟨p, 2, none⟩ = some (W s.c) ∧ w.cell? ⟨p, 3, none⟩ = some (W s.d) ∧
    w.cell? ⟨p, 4, none⟩ = some (W s.e) ∧ w.cell? ⟨p, 5, none⟩ = some (W s.f) ∧ w.cell? ⟨p, 6, none⟩ = some (W s.g) ∧ w.cell? ⟨p, 7, none⟩ = some (W s.h) := by
  obtain ⟨rs, h64, _, hb⟩ := h
  refine ⟨_, rfl, ?_, ?_, ?_, ?_, ?_, ?_, ?_, ?_⟩ <;> (rw [cell_of_block hb]; rfl)
set_option maxRecDepth 100000 in
theorem bytesOff_of_block {w : World} {g n cap p : Nat} {bs : List UInt8} {t : TypeId} {fr : Nat × Nat} (hb : w.heap[g]? = some (.cells (bs.map B).toArray t fr)) (hn : n = bs.length) (hc : bs.length ≤ cap) (hp : g ≠ p) : BytesOff w (.slice (some ⟨g, 0, none⟩) n cap) bs p := by
  subst hn
  refine ⟨_, cap, rfl, hc, fun j x hj => ⟨g, 0, rfl, hp, lt_of_heap hb, ?_⟩⟩
  rw [Nat.zero_add, cell_of_block hb, List.getElem?_toArray, List.getElem?_map, hj]; rfl
set_option maxRecDepth 100000 in
theorem zeros32 : #[Value.int .u8 0, Value.int .u8 0, Value.int .u8 0, Value.int .u8 0, Value.int .u8 0, Value.int .u8 0, Value.int .u8 0, Value.int .u8 0, Value.int .u8 0, Value.int .u8 0, Value.int .u8 0, Value.int .u8 0, Value.int .u8 0, Value.int .u8 0, Value.int .u8 0, Value.int .u8 0, Value.int .u8 0, Value.int .u8 0, Value.int .u8 0, Value.int .u8 0, Value.int .u8 0, Value.int .u8 0, Value.int .u8 0, Value.int .u8 0, Value.int .u8 0, Value.int .u8 0, Value.int .u8 0, Value.int .u8 0, Value.int .u8 0, Value.int .u8 0, Value.int .u8 0, Value.int .u8 0] = ((List.replicate 32 (0 : UInt8)).map B).toArray := rfl

set_option maxRecDepth 100000 in
theorem one32 : ((List.replicate 32 (0 : UInt8)).map B).toArray.all (·.oneCell') = true := all_oneCell_toArray (B_one _)
set_option maxRecDepth 100000 in
theorem size32 : ((List.replicate 32 (0 : UInt8)).map B).toArray.size = 32 := by simp
set_option maxRecDepth 100000 in
theorem new32 (w : World) : ∃ w0 : World, w0 = w.alloc (.cells #[Value.int .u8 0, Value.int .u8 0, Value.int .u8 0, Value.int .u8 0, Value.int .u8 0, Value.int .u8 0, Value.int .u8 0, Value.int .u8 0, Value.int .u8 0, Value.int .u8 0, Value.int .u8 0, Value.int .u8 0, Value.int .u8 0, Value.int .u8 0, Value.int .u8 0, Value.int .u8 0, Value.int .u8 0, Value.int .u8 0, Value.int .u8 0, Value.int .u8 0, Value.int .u8 0, Value.int .u8 0, Value.int .u8 0, Value.int .u8 0, Value.int .u8 0, Value.int .u8 0, Value.int .u8 0, Value.int .u8 0, Value.int .u8 0, Value.int .u8 0, Value.int .u8 0, Value.int .u8 0] 26) ∧ w0.heap[w.heap.size]? = some (.cells ((List.replicate 32 (0 : UInt8)).map B).toArray 26 (0, 0)) ∧ Below w.heap.size w w0 ∧ w0.heap.size = w.heap.size + 1 :=
  ⟨_, rfl, by rw [zeros32]; exact block_new _ _, (Below.refl _ _).alloc (Nat.le_refl _) _, by simp⟩

set_option maxRecDepth 100000 in
theorem hsum_nil (w : World) : Calls Tryd.prog 24 #[.pointer none] w fun e w' => e = .returned (.agg ((List.replicate 32 (0 : UInt8)).map B).toArray) ∧ Below w.heap.size w w' := by
  obtain ⟨w0, hw0, hb0, hB0, hz0⟩ := new32 w
  have HW := hid hw0
  clear hw0
  go_enter Tryd.func24, Tryd.ntmps24
  go_wp2_with (refine wpList_store_block rfl 26 (.tmp 2) (.tmp 6) rfl w.heap.size ((List.replicate 32 (0 : UInt8)).map B).toArray rfl rfl _ 26 (by rw [← HW.out]; exact hb0) rfl (info26.trans (congrArg some size32.symm)) one32 ?_; intro w1 hg1 hb1 hz1)
  refine bodyPost_ret (results_cell Tryd.results24 _ _ rfl hb1 _ Tryd.underlying26 rfl (info26.trans (congrArg some size32.symm))) rfl ⟨rfl, ?_⟩
  rw [← HW.out] at hg1
  exact hB0.trans (below_of_grown hg1 (Nat.le_refl _) (by omega))

set_option maxRecDepth 100000 in
set_option maxHeartbeats 1000000 in
theorem hsum_any (p : Nat) (bs : List UInt8) (w : World) (hK : Kat w) (hH : HasherAt w p bs) (hlen : bs.length < 576460752303423488) :
    Calls Tryd.prog 24 #[.pointer (some ⟨p, 0, none⟩)] w fun e w' => e = .returned (.agg ((sumS bs).map B).toArray) ∧ Below w.heap.size w w' := by
  have hp := hH.lt
  have h2 := hK.lt
  obtain ⟨w0, hw0, hb0, hB0, hz0⟩ := new32 w
  have HB0 := hid hb0
  have hH0 := hH.below hB0 hp
  have hK0 := hK.below hB0 h2
  have hz0' : w.heap.size < w0.heap.size := by omega
  clear hb0 hz0
  go_enter Tryd.func24, Tryd.ntmps24
  go_wp2_with fail
  rw [← hw0]
  clear hw0
  refine (fork_any w0 p bs hH0).mono ?_
  rintro e w1 ⟨rfl, hF1, hB1, hz1⟩
  have hl2 : w0.heap.size < w1.heap.size := by omega
  clear hz1
  have c72 := (hH0.below hB1 (by omega)).size
  have HF1 := hid hF1
  have HK1 := hid (hK0.below hB1 (by omega))
  clear hF1
  go_wp2_with fail
  refine (padding_any bs.length (by omega) w1).mono ?_
  rintro e w2 ⟨g, cap, rfl, hcap, hgw, hgb, hB2⟩
  have HF2 := hid (HF1.out.below hB2 hl2)
  have HK2 := hid (HK1.out.below hB2 (by omega))
  have HBO := hid (bytesOff_of_block (p := w0.heap.size) hgb rfl hcap (by omega))
  have hpl := length_padS bs.length
  have HPL := hid hpl
  clear hgb hpl c72
  go_wp2_with fail
  refine (write_any w0.heap.size bs (padS bs.length) _ w2 HK2.out (by omega) HF2.out HBO.out (by have := HPL.out; omega)).mono ?_
  rintro e w3 ⟨rfl, hg3, hH3⟩
  obtain ⟨s, hs, r0, r1, r2, r3, r4, r5, r6, r7⟩ := hH3.run
  have HS := hid hs
  clear hs
  go_wp2_with fail
  refine (bytes_any s w3).mono ?_
  rintro e w4 ⟨rfl, hB4⟩
  have hR : w4.heap[w.heap.size]? = some (.cells ((List.replicate 32 (0 : UInt8)).map B).toArray 26 (0, 0)) := by
    have h1 := below_block hB1 HB0.out (by omega)
    have h2 := below_block hB2 h1 (by omega)
    have h3 := grown_block hg3 h2 (by simp; omega)
    exact below_block hB4 h3 (lt_of_heap h3)
  have hs26 : ((outS s).map B).toArray.size = 32 := by simp [length_outS]
  have HR := hid hR
  have Hs := hid hs26
  have hBall : Below w.heap.size w w4 := by
    have q1 := hB0.trans (hB1.mono (by omega))
    have q2 := q1.trans (hB2.mono (by omega))
    have q3 := q2.trans (below_of_grown (K := w.heap.size) hg3 (by omega) (by have := hB2.size; omega))
    exact q3.trans (hB4.mono (by have := hg3.size; have := hB2.size; omega))
  have HBall := hid hBall
  clear hR hs26 hBall
  go_wp2_with (refine wpList_store_block rfl 26 (.tmp 2) (.tmp 20) rfl w.heap.size ((outS s).map B).toArray rfl rfl _ 26 HR.out (Hs.out.trans size32.symm) (info26.trans (congrArg some Hs.out.symm)) (all_oneCell_toArray (B_one _)) ?_; intro w5 hg5 hb5 hz5)
  refine bodyPost_ret (results_cell Tryd.results24 _ _ rfl hb5 _ Tryd.underlying26 rfl (info26.trans (congrArg some Hs.out.symm))) rfl ⟨?_, ?_⟩
  · rw [HS.out]; rfl
  · exact HBall.out.trans (below_of_grown hg5 (Nat.le_refl _) HBall.out.size)
end Go.Proofs.YtkmmeokccmppbaaDoor
