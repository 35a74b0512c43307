/- The reference: header, walked. WRITTEN by mk_vheadw.py. -/
import Derived.Test.YtdfnhgkabaikaaaVHead
namespace Go.Proofs.Ytdfnhgkabaikaaa
open Go.RowKit
/-- 512 noughts. -/
def zhd : List UInt8 := List.replicate 512 0
theorem zhd_len : zhd.length = 512 := List.length_replicate
theorem zhd_fld (a n : Nat) (h : a + n ≤ 512) : fld zhd a n = List.replicate n 0 := fld_zero _ _ _ h
theorem hdr_eq {Z : List UInt8} (hL : Z.length = 512) (hz : ∀ a n, a + n ≤ 512 → fld Z a n = List.replicate n 0) {e : EN} (he : rightE e = 0) {p r : List UInt8} (hp : partP e.name = some (p, r)) {L : List UInt8} (hLd : L = ap Z (wsR e.kind e.mode.toNat e.link e.data.length p r)) :
    wrt L 148 (oct (sumH L).toNat 7 ++ [0]) = (blkE e).take 512 := by
  obtain ⟨p', r', s, hd, hp', hs, h8⟩ := blkE_hd he []
  rw [hp] at hp'
  injection hp' with hp'
  injection hp' with e1 e2
  subst e1 e2
  rw [List.append_nil] at hd hs
  unfold fld at hs
  rw [List.drop_zero] at hs
  have hpl := partP_len hp
  have hk := linkOk_len (right_all he).2.2.2.2.2.2.1
  have hlb : 512 ≤ (blkE e).length := by rw [blkE_len he]; unfold bsz; omega
  have hf := fitsR (md := e.mode.toNat) (n := e.data.length) (kd := e.kind) hpl.2 hpl.1 hk
  have hll : L.length = 512 := by rw [hLd]; exact length_ap hL _ hf
  have h1 := hd16_of (Z := Z) (e := e) (p := p) (r := r) (s := s) hL hz hpl.2 hpl.1 hk
  have h1' : Hd16 (wrt L 148 (oct s 7 ++ [0])) e p r s := by rw [hLd]; exact h1
  have h2 : wrt L 148 (oct s 7 ++ [0]) = (blkE e).take 512 :=
    h1'.eq (Hd16.of hd) (by rw [length_wrt (by rw [octN]; omega)]; exact hll) (by rw [List.length_take]; omega)
  have h3 : sumH L = s := by
    have := sumH_wrt (s := oct s 7 ++ [0]) hll (octN _ _)
    rw [h2] at this
    rw [← this, hs]
  rw [h3]
  exact h2
theorem partI_some {s p r : List UInt8} (h : partP s = some (p, r)) : partI s = p.length := by unfold partI; rw [h]
theorem partP_take {s p r : List UInt8} (h : partP s = some (p, r)) (h0 : p ≠ []) : s.take p.length = p ∧ s.drop (p.length + 1) = r ∧ p.length + 1 ≤ s.length := by
  have hj := partP_join h
  rw [if_neg h0] at hj
  rw [← hj]
  refine ⟨List.take_left, ?_, by simp⟩
  rw [show p.length + 1 = p.length + (1 : Nat) from rfl, List.drop_length_add_append]
  rfl
theorem wrt_nil (L : List UInt8) (a : Nat) : wrt L a [] = L := by
  unfold wrt
  rw [List.append_nil, List.length_nil, Nat.add_zero, List.take_append_drop]
theorem HdS.set156 {w0 w : World} {g : Nat} {E : Array Value} {L : List UInt8} (h : HdS w0 w g E L) (x : UInt8) : HdS w0 (w.setCell ⟨g, 156, none⟩ (B x)) g E (wrt L 156 [x]) := by
  have h1 : L.set 156 x = wrt L 156 [x] := by
    have hl := h.len
    unfold wrt
    rw [List.set_eq_take_append_cons_drop, if_pos (by omega), List.append_assoc]
    rfl
  have h2 := h.blk.set 156 x
  rw [h1] at h2
  refine h.put (grown_setCell (grown_refl _ _) 156 (B x)) h2 ?_
  rw [length_wrt (by have := h.len; simp; omega)]
  exact h.len
theorem hds_new {w w1 wB : World} {E : Array Value} {o : Obj} (hw : wB = w.alloc o) (hBB : Below w.heap.size w wB) (hb : wB.heap[w.heap.size]? = some (.cells E 31 (0, 0))) (hs : wB.heap.size = w.heap.size + 1) (hB1 : Below (w.alloc o).heap.size (w.alloc o) w1) (hb1 : w1.heap[(w.alloc o).heap.size]? = some (.cells (zhd.map B).toArray 5 (0, 0))) : HdS w w1 (w.heap.size + 1) E zhd := by
  rw [← hw] at hB1 hb1
  rw [hs] at hb1
  exact ⟨hBB.trans (hB1.mono hBB.size), (hB1.block _ (lt_of_heap hb)).trans hb, hb1, Nat.lt_succ_self _, zhd_len⟩
set_option maxHeartbeats 8000000 in
set_option maxRecDepth 100000 in
theorem fheader_go (nm lk da : List UInt8) (kd : Int) (md : Nat) (ao : Option Addr) (n cap : Nat) (w : World) (p r : List UInt8) (he : rightE ⟨nm, kd, md, lk, da⟩ = 0) (hp : partP nm = some (p, r)) (hn : da.length = n) :
    Calls Try.prog 22 #[.agg #[str nm, .int .i64 kd, .int .i64 (md : Nat), str lk, .slice ao n cap]] w fun e w' => ∃ g, e = .returned (.slice (some ⟨g, 0, none⟩) 512 512) ∧ w.heap.size ≤ g ∧ Below w.heap.size w w' ∧ blkB w' g ((blkE ⟨nm, kd, md, lk, da⟩).take 512) := by
  obtain ⟨hk1, hk4, hm0, hm1, hnm, -, hlk, -, hdl⟩ := right_all he
  have HEnd := hid (fun L hL => hdr_eq (Z := zhd) zhd_len zhd_fld he hp (L := L) hL)
  have hpl := partP_len hp
  have hll := linkOk_len hlk
  have hnl := (textOk_all hnm).2.1
  simp only at hk1 hk4 hm0 hm1 hnl hll hdl
  have HPi := hid (partI_some hp)
  have HPt := hid (fun w => fpart_any nm w hnl)
  have HPr := hid (partP_take hp)
  have HPj := hid (partP_join hp)
  have HPL := hid hpl
  have HLL := hid hll
  have hn7 : n ≤ 70656 := by omega
  have hmd : md ≤ 4095 := by omega
  subst hn
  have HMd : Hid (md ≤ 8589934592) := by unfold Hid; omega
  have HDl : Hid (da.length ≤ 8589934592) := by unfold Hid; omega
  obtain ⟨wB, hwB⟩ : ∃ wB, wB = w.alloc (.cells #[str nm, .int .i64 kd, .int .i64 (md : Nat), str lk, .slice ao da.length cap] 31) := ⟨_, rfl⟩
  have hBB := (Below.refl w.heap.size w).alloc (Nat.le_refl _) (.cells #[str nm, .int .i64 kd, .int .i64 (md : Nat), str lk, .slice ao da.length cap] 31)
  have hbB := block_new w (.cells #[str nm, .int .i64 kd, .int .i64 (md : Nat), str lk, .slice ao da.length cap] 31)
  rw [← hwB] at hBB hbB
  have hsB : wB.heap.size = w.heap.size + 1 := by rw [hwB]; exact World.size_alloc _ _
  have HBB := hid hBB
  have HbB := hid hbB
  have HsB := hid hsB
  have hz1 := size_str nm
  clear he hnm hlk hpl hll hm0 hm1 hBB hbB hsB hdl
  go_enter Try.func22, Try.ntmps22
  go_wp2_with (refine wpList_make_bytes rfl (.const (.int .i64 512)) (.const (.int .i64 512)) 23 rfl 5 Try.underlying23 infoU 512 512 512 512 rfl rfl rfl rfl (Nat.le_refl _) (by omega) ?_; intro w1 hB1 hb1 hs1; have HS : Hid (HdS w w1 (w.heap.size + 1) #[str nm, .int .i64 kd, .int .i64 (md : Nat), str lk, .slice ao da.length cap] zhd) := hds_new hwB HBB.out HbB.out HsB.out hB1 hb1; clear hB1 hb1 hs1; have c0 : w1.cell? ⟨w.heap.size, 0, none⟩ = some (str nm) := cell_of_block HS.out.eb 0; have c1 : w1.cell? ⟨w.heap.size, 1, none⟩ = some (.int .i64 kd) := cell_of_block HS.out.eb 1; have c2 : w1.cell? ⟨w.heap.size, 2, none⟩ = some (.int .i64 (md : Nat)) := cell_of_block HS.out.eb 2; have c3 : w1.cell? ⟨w.heap.size, 3, none⟩ = some (str lk) := cell_of_block HS.out.eb 3; have c4 : w1.cell? ⟨w.heap.size, 4, none⟩ = some (.slice ao da.length cap) := cell_of_block HS.out.eb 4)
  have HG : Hid (w.heap.size < w.heap.size + 1) := Nat.lt_succ_self _
  generalize w.heap.size + 1 = g at *
  clear hwB HBB HbB HsB
  refine (HPt.out w1).mono ?_
  rintro e w2 ⟨rfl, rfl⟩
  rw [HPi.out]
  by_cases h0 : p = []
  · have HJ : Hid (r = nm) := by have := HPj.out; rwa [if_pos h0] at this
    have q0 : ¬ ((p.length : Int) > 0) := by rw [h0]; simp
    have H1 : Hid (∀ L, L = wrt zhd 0 nm → L = wrt (wrt zhd 345 p) 0 r) := fun L h => by rw [h0, wrt_nil, HJ.out]; exact h
    have HN1 : Hid (nm.length ≤ 100) := by unfold Hid; rw [← HJ.out]; exact HPL.out.2
    clear h0
    go_wp2_with fail
    refine (HS.out.fput 0 (nm) (by have := HN1.out; omega)).mono ?_
    rintro e w3 ⟨⟨vw3, rfl⟩, L2, hL2, hS⟩
    have HL2 := hid hL2
    clear HS hL2 c0 c1 c2 c3 c4
    have HS := hid hS
    clear hS; have c0 : w3.cell? ⟨w.heap.size, 0, none⟩ = some (str nm) := cell_of_block HS.out.eb 0; have c1 : w3.cell? ⟨w.heap.size, 1, none⟩ = some (.int .i64 kd) := cell_of_block HS.out.eb 1; have c2 : w3.cell? ⟨w.heap.size, 2, none⟩ = some (.int .i64 (md : Nat)) := cell_of_block HS.out.eb 2; have c3 : w3.cell? ⟨w.heap.size, 3, none⟩ = some (str lk) := cell_of_block HS.out.eb 3; have c4 : w3.cell? ⟨w.heap.size, 4, none⟩ = some (.slice ao da.length cap) := cell_of_block HS.out.eb 4
    have HL2 := hid (H1.out L2 HL2.out)
    clear H1 HN1 HJ
    go_wp2_with fail
    refine (HS.out.oct8 (md) (HMd.out)).mono ?_
    rintro e w4 ⟨⟨vw4, rfl, aw4, lw4, cw4, rfl, hcw4⟩, hS⟩
    clear HS c0 c1 c2 c3 c4
    have HS := hid hS
    clear hS; have c0 : w4.cell? ⟨w.heap.size, 0, none⟩ = some (str nm) := cell_of_block HS.out.eb 0; have c1 : w4.cell? ⟨w.heap.size, 1, none⟩ = some (.int .i64 kd) := cell_of_block HS.out.eb 1; have c2 : w4.cell? ⟨w.heap.size, 2, none⟩ = some (.int .i64 (md : Nat)) := cell_of_block HS.out.eb 2; have c3 : w4.cell? ⟨w.heap.size, 3, none⟩ = some (str lk) := cell_of_block HS.out.eb 3; have c4 : w4.cell? ⟨w.heap.size, 4, none⟩ = some (.slice ao da.length cap) := cell_of_block HS.out.eb 4
    go_wp2_with fail
    refine (HS.out.fput 100 (oct (md) 7 ++ [0]) (by rw [octN]; omega)).mono ?_
    rintro e w5 ⟨⟨vw5, rfl⟩, L3, hL3, hS⟩
    have HL3 := hid hL3
    clear HS hL3 c0 c1 c2 c3 c4
    have HS := hid hS
    clear hS; have c0 : w5.cell? ⟨w.heap.size, 0, none⟩ = some (str nm) := cell_of_block HS.out.eb 0; have c1 : w5.cell? ⟨w.heap.size, 1, none⟩ = some (.int .i64 kd) := cell_of_block HS.out.eb 1; have c2 : w5.cell? ⟨w.heap.size, 2, none⟩ = some (.int .i64 (md : Nat)) := cell_of_block HS.out.eb 2; have c3 : w5.cell? ⟨w.heap.size, 3, none⟩ = some (str lk) := cell_of_block HS.out.eb 3; have c4 : w5.cell? ⟨w.heap.size, 4, none⟩ = some (.slice ao da.length cap) := cell_of_block HS.out.eb 4
    clear hcw4
    go_wp2_with fail
    refine (HS.out.oct8 (0) (by omega)).mono ?_
    rintro e w6 ⟨⟨vw6, rfl, aw6, lw6, cw6, rfl, hcw6⟩, hS⟩
    clear HS c0 c1 c2 c3 c4
    have HS := hid hS
    clear hS; have c0 : w6.cell? ⟨w.heap.size, 0, none⟩ = some (str nm) := cell_of_block HS.out.eb 0; have c1 : w6.cell? ⟨w.heap.size, 1, none⟩ = some (.int .i64 kd) := cell_of_block HS.out.eb 1; have c2 : w6.cell? ⟨w.heap.size, 2, none⟩ = some (.int .i64 (md : Nat)) := cell_of_block HS.out.eb 2; have c3 : w6.cell? ⟨w.heap.size, 3, none⟩ = some (str lk) := cell_of_block HS.out.eb 3; have c4 : w6.cell? ⟨w.heap.size, 4, none⟩ = some (.slice ao da.length cap) := cell_of_block HS.out.eb 4
    go_wp2_with fail
    refine (HS.out.fput 108 (oct (0) 7 ++ [0]) (by rw [octN]; omega)).mono ?_
    rintro e w7 ⟨⟨vw7, rfl⟩, L4, hL4, hS⟩
    have HL4 := hid hL4
    clear HS hL4 c0 c1 c2 c3 c4
    have HS := hid hS
    clear hS; have c0 : w7.cell? ⟨w.heap.size, 0, none⟩ = some (str nm) := cell_of_block HS.out.eb 0; have c1 : w7.cell? ⟨w.heap.size, 1, none⟩ = some (.int .i64 kd) := cell_of_block HS.out.eb 1; have c2 : w7.cell? ⟨w.heap.size, 2, none⟩ = some (.int .i64 (md : Nat)) := cell_of_block HS.out.eb 2; have c3 : w7.cell? ⟨w.heap.size, 3, none⟩ = some (str lk) := cell_of_block HS.out.eb 3; have c4 : w7.cell? ⟨w.heap.size, 4, none⟩ = some (.slice ao da.length cap) := cell_of_block HS.out.eb 4
    clear hcw6
    go_wp2_with fail
    refine (HS.out.oct8 (0) (by omega)).mono ?_
    rintro e w8 ⟨⟨vw8, rfl, aw8, lw8, cw8, rfl, hcw8⟩, hS⟩
    clear HS c0 c1 c2 c3 c4
    have HS := hid hS
    clear hS; have c0 : w8.cell? ⟨w.heap.size, 0, none⟩ = some (str nm) := cell_of_block HS.out.eb 0; have c1 : w8.cell? ⟨w.heap.size, 1, none⟩ = some (.int .i64 kd) := cell_of_block HS.out.eb 1; have c2 : w8.cell? ⟨w.heap.size, 2, none⟩ = some (.int .i64 (md : Nat)) := cell_of_block HS.out.eb 2; have c3 : w8.cell? ⟨w.heap.size, 3, none⟩ = some (str lk) := cell_of_block HS.out.eb 3; have c4 : w8.cell? ⟨w.heap.size, 4, none⟩ = some (.slice ao da.length cap) := cell_of_block HS.out.eb 4
    go_wp2_with fail
    refine (HS.out.fput 116 (oct (0) 7 ++ [0]) (by rw [octN]; omega)).mono ?_
    rintro e w9 ⟨⟨vw9, rfl⟩, L5, hL5, hS⟩
    have HL5 := hid hL5
    clear HS hL5 c0 c1 c2 c3 c4
    have HS := hid hS
    clear hS; have c0 : w9.cell? ⟨w.heap.size, 0, none⟩ = some (str nm) := cell_of_block HS.out.eb 0; have c1 : w9.cell? ⟨w.heap.size, 1, none⟩ = some (.int .i64 kd) := cell_of_block HS.out.eb 1; have c2 : w9.cell? ⟨w.heap.size, 2, none⟩ = some (.int .i64 (md : Nat)) := cell_of_block HS.out.eb 2; have c3 : w9.cell? ⟨w.heap.size, 3, none⟩ = some (str lk) := cell_of_block HS.out.eb 3; have c4 : w9.cell? ⟨w.heap.size, 4, none⟩ = some (.slice ao da.length cap) := cell_of_block HS.out.eb 4
    clear hcw8
    go_wp2_with fail
    refine (HS.out.oct12 (da.length) (HDl.out)).mono ?_
    rintro e w10 ⟨⟨vw10, rfl, aw10, lw10, cw10, rfl, hcw10⟩, hS⟩
    clear HS c0 c1 c2 c3 c4
    have HS := hid hS
    clear hS; have c0 : w10.cell? ⟨w.heap.size, 0, none⟩ = some (str nm) := cell_of_block HS.out.eb 0; have c1 : w10.cell? ⟨w.heap.size, 1, none⟩ = some (.int .i64 kd) := cell_of_block HS.out.eb 1; have c2 : w10.cell? ⟨w.heap.size, 2, none⟩ = some (.int .i64 (md : Nat)) := cell_of_block HS.out.eb 2; have c3 : w10.cell? ⟨w.heap.size, 3, none⟩ = some (str lk) := cell_of_block HS.out.eb 3; have c4 : w10.cell? ⟨w.heap.size, 4, none⟩ = some (.slice ao da.length cap) := cell_of_block HS.out.eb 4
    go_wp2_with fail
    refine (HS.out.fput 124 (oct (da.length) 11 ++ [0]) (by rw [octN]; omega)).mono ?_
    rintro e w11 ⟨⟨vw11, rfl⟩, L6, hL6, hS⟩
    have HL6 := hid hL6
    clear HS hL6 c0 c1 c2 c3 c4
    have HS := hid hS
    clear hS; have c0 : w11.cell? ⟨w.heap.size, 0, none⟩ = some (str nm) := cell_of_block HS.out.eb 0; have c1 : w11.cell? ⟨w.heap.size, 1, none⟩ = some (.int .i64 kd) := cell_of_block HS.out.eb 1; have c2 : w11.cell? ⟨w.heap.size, 2, none⟩ = some (.int .i64 (md : Nat)) := cell_of_block HS.out.eb 2; have c3 : w11.cell? ⟨w.heap.size, 3, none⟩ = some (str lk) := cell_of_block HS.out.eb 3; have c4 : w11.cell? ⟨w.heap.size, 4, none⟩ = some (.slice ao da.length cap) := cell_of_block HS.out.eb 4
    clear hcw10
    go_wp2_with fail
    refine (HS.out.oct12 (0) (by omega)).mono ?_
    rintro e w12 ⟨⟨vw12, rfl, aw12, lw12, cw12, rfl, hcw12⟩, hS⟩
    clear HS c0 c1 c2 c3 c4
    have HS := hid hS
    clear hS; have c0 : w12.cell? ⟨w.heap.size, 0, none⟩ = some (str nm) := cell_of_block HS.out.eb 0; have c1 : w12.cell? ⟨w.heap.size, 1, none⟩ = some (.int .i64 kd) := cell_of_block HS.out.eb 1; have c2 : w12.cell? ⟨w.heap.size, 2, none⟩ = some (.int .i64 (md : Nat)) := cell_of_block HS.out.eb 2; have c3 : w12.cell? ⟨w.heap.size, 3, none⟩ = some (str lk) := cell_of_block HS.out.eb 3; have c4 : w12.cell? ⟨w.heap.size, 4, none⟩ = some (.slice ao da.length cap) := cell_of_block HS.out.eb 4
    go_wp2_with fail
    refine (HS.out.fput 136 (oct (0) 11 ++ [0]) (by rw [octN]; omega)).mono ?_
    rintro e w13 ⟨⟨vw13, rfl⟩, L7, hL7, hS⟩
    have HL7 := hid hL7
    clear HS hL7 c0 c1 c2 c3 c4
    have HS := hid hS
    clear hS; have c0 : w13.cell? ⟨w.heap.size, 0, none⟩ = some (str nm) := cell_of_block HS.out.eb 0; have c1 : w13.cell? ⟨w.heap.size, 1, none⟩ = some (.int .i64 kd) := cell_of_block HS.out.eb 1; have c2 : w13.cell? ⟨w.heap.size, 2, none⟩ = some (.int .i64 (md : Nat)) := cell_of_block HS.out.eb 2; have c3 : w13.cell? ⟨w.heap.size, 3, none⟩ = some (str lk) := cell_of_block HS.out.eb 3; have c4 : w13.cell? ⟨w.heap.size, 4, none⟩ = some (.slice ao da.length cap) := cell_of_block HS.out.eb 4
    clear hcw12
    have hBo := (Below.refl w13.heap.size w13).alloc (Nat.le_refl _) (.cells #[.int .u8 0, .int .u8 48, .int .u8 53, .int .u8 50, .int .u8 49] 5)
    have hbo := block_new w13 (.cells #[.int .u8 0, .int .u8 48, .int .u8 53, .int .u8 50, .int .u8 49] 5)
    have HS1 := hid (HS.out.up hBo)
    have c1 : (w13.alloc (.cells #[.int .u8 0, .int .u8 48, .int .u8 53, .int .u8 50, .int .u8 49] 5)).cell? ⟨w.heap.size, 1, none⟩ = some (.int .i64 kd) := cell_of_block HS1.out.eb 1
    have c6 := HS1.out.blk.cell 156 (by rw [HS1.out.len]; omega)
    have f6 := frozen_of_block HS1.out.blk 156
    have HS2 := hid (fun x => HS1.out.set156 x)
    clear hBo HS1
    generalize L7.getD 156 0 = z6 at *
    obtain rfl | rfl | rfl | rfl : kd = 1 ∨ kd = 2 ∨ kd = 3 ∨ kd = 4 := by omega
    · have c7 : (w13.alloc (.cells #[.int .u8 0, .int .u8 48, .int .u8 53, .int .u8 50, .int .u8 49] 5)).cell? ⟨w13.heap.size, 1, none⟩ = some (.int .u8 48) := cell_of_block hbo 1
      clear hbo
      go_upto_region 13 with fail
      generalize hW : World.setCell (World.alloc w13 _) _ _ = w14
      obtain ⟨L8, hL8⟩ : ∃ L8, L8 = wrt L7 156 [typeP 1] := ⟨_, rfl⟩
      have HL8 := hid hL8
      clear HS c0 c1 c2 c3 c4 c6 f6 c7
      have HS : Hid (HdS w w14 g #[str nm, .int .i64 1, .int .i64 (md : Nat), str lk, .slice ao da.length cap] L8) := by unfold Hid; rw [hL8, ← hW]; exact HS2.out 48
      clear hW hL8 HS2
      have c0 : w14.cell? ⟨w.heap.size, 0, none⟩ = some (str nm) := cell_of_block HS.out.eb 0; have c1 : w14.cell? ⟨w.heap.size, 1, none⟩ = some (.int .i64 1) := cell_of_block HS.out.eb 1; have c2 : w14.cell? ⟨w.heap.size, 2, none⟩ = some (.int .i64 (md : Nat)) := cell_of_block HS.out.eb 2; have c3 : w14.cell? ⟨w.heap.size, 3, none⟩ = some (str lk) := cell_of_block HS.out.eb 3; have c4 : w14.cell? ⟨w.heap.size, 4, none⟩ = some (.slice ao da.length cap) := cell_of_block HS.out.eb 4
      go_wp2_with fail
      refine (HS.out.fput 157 (lk) (by have := HLL.out; omega)).mono ?_
      rintro e w15 ⟨⟨vw15, rfl⟩, L9, hL9, hS⟩
      have HL9 := hid hL9
      clear HS hL9 c0 c1 c2 c3 c4
      have HS := hid hS
      clear hS; have c0 : w15.cell? ⟨w.heap.size, 0, none⟩ = some (str nm) := cell_of_block HS.out.eb 0; have c1 : w15.cell? ⟨w.heap.size, 1, none⟩ = some (.int .i64 1) := cell_of_block HS.out.eb 1; have c2 : w15.cell? ⟨w.heap.size, 2, none⟩ = some (.int .i64 (md : Nat)) := cell_of_block HS.out.eb 2; have c3 : w15.cell? ⟨w.heap.size, 3, none⟩ = some (str lk) := cell_of_block HS.out.eb 3; have c4 : w15.cell? ⟨w.heap.size, 4, none⟩ = some (.slice ao da.length cap) := cell_of_block HS.out.eb 4
      go_wp2_with fail
      refine (HS.out.fput 257 (signB) (by show 257 + 8 ≤ 512; omega)).mono ?_
      rintro e w16 ⟨⟨vw16, rfl⟩, L10, hL10, hS⟩
      have HL10 := hid hL10
      clear HS hL10 c0 c1 c2 c3 c4
      have HS := hid hS
      clear hS; have c0 : w16.cell? ⟨w.heap.size, 0, none⟩ = some (str nm) := cell_of_block HS.out.eb 0; have c1 : w16.cell? ⟨w.heap.size, 1, none⟩ = some (.int .i64 1) := cell_of_block HS.out.eb 1; have c2 : w16.cell? ⟨w.heap.size, 2, none⟩ = some (.int .i64 (md : Nat)) := cell_of_block HS.out.eb 2; have c3 : w16.cell? ⟨w.heap.size, 3, none⟩ = some (str lk) := cell_of_block HS.out.eb 3; have c4 : w16.cell? ⟨w.heap.size, 4, none⟩ = some (.slice ao da.length cap) := cell_of_block HS.out.eb 4
      go_wp2_with fail
      refine (HS.out.oct8 (0) (by omega)).mono ?_
      rintro e w17 ⟨⟨vw17, rfl, aw17, lw17, cw17, rfl, hcw17⟩, hS⟩
      clear HS c0 c1 c2 c3 c4
      have HS := hid hS
      clear hS; have c0 : w17.cell? ⟨w.heap.size, 0, none⟩ = some (str nm) := cell_of_block HS.out.eb 0; have c1 : w17.cell? ⟨w.heap.size, 1, none⟩ = some (.int .i64 1) := cell_of_block HS.out.eb 1; have c2 : w17.cell? ⟨w.heap.size, 2, none⟩ = some (.int .i64 (md : Nat)) := cell_of_block HS.out.eb 2; have c3 : w17.cell? ⟨w.heap.size, 3, none⟩ = some (str lk) := cell_of_block HS.out.eb 3; have c4 : w17.cell? ⟨w.heap.size, 4, none⟩ = some (.slice ao da.length cap) := cell_of_block HS.out.eb 4
      go_wp2_with fail
      refine (HS.out.fput 329 (oct (0) 7 ++ [0]) (by rw [octN]; omega)).mono ?_
      rintro e w18 ⟨⟨vw18, rfl⟩, L11, hL11, hS⟩
      have HL11 := hid hL11
      clear HS hL11 c0 c1 c2 c3 c4
      have HS := hid hS
      clear hS; have c0 : w18.cell? ⟨w.heap.size, 0, none⟩ = some (str nm) := cell_of_block HS.out.eb 0; have c1 : w18.cell? ⟨w.heap.size, 1, none⟩ = some (.int .i64 1) := cell_of_block HS.out.eb 1; have c2 : w18.cell? ⟨w.heap.size, 2, none⟩ = some (.int .i64 (md : Nat)) := cell_of_block HS.out.eb 2; have c3 : w18.cell? ⟨w.heap.size, 3, none⟩ = some (str lk) := cell_of_block HS.out.eb 3; have c4 : w18.cell? ⟨w.heap.size, 4, none⟩ = some (.slice ao da.length cap) := cell_of_block HS.out.eb 4
      clear hcw17
      go_wp2_with fail
      refine (HS.out.oct8 (0) (by omega)).mono ?_
      rintro e w19 ⟨⟨vw19, rfl, aw19, lw19, cw19, rfl, hcw19⟩, hS⟩
      clear HS c0 c1 c2 c3 c4
      have HS := hid hS
      clear hS; have c0 : w19.cell? ⟨w.heap.size, 0, none⟩ = some (str nm) := cell_of_block HS.out.eb 0; have c1 : w19.cell? ⟨w.heap.size, 1, none⟩ = some (.int .i64 1) := cell_of_block HS.out.eb 1; have c2 : w19.cell? ⟨w.heap.size, 2, none⟩ = some (.int .i64 (md : Nat)) := cell_of_block HS.out.eb 2; have c3 : w19.cell? ⟨w.heap.size, 3, none⟩ = some (str lk) := cell_of_block HS.out.eb 3; have c4 : w19.cell? ⟨w.heap.size, 4, none⟩ = some (.slice ao da.length cap) := cell_of_block HS.out.eb 4
      go_wp2_with fail
      refine (HS.out.fput 337 (oct (0) 7 ++ [0]) (by rw [octN]; omega)).mono ?_
      rintro e w20 ⟨⟨vw20, rfl⟩, L12, hL12, hS⟩
      have HL12 := hid hL12
      clear HS hL12 c0 c1 c2 c3 c4
      have HS := hid hS
      clear hS; have c0 : w20.cell? ⟨w.heap.size, 0, none⟩ = some (str nm) := cell_of_block HS.out.eb 0; have c1 : w20.cell? ⟨w.heap.size, 1, none⟩ = some (.int .i64 1) := cell_of_block HS.out.eb 1; have c2 : w20.cell? ⟨w.heap.size, 2, none⟩ = some (.int .i64 (md : Nat)) := cell_of_block HS.out.eb 2; have c3 : w20.cell? ⟨w.heap.size, 3, none⟩ = some (str lk) := cell_of_block HS.out.eb 3; have c4 : w20.cell? ⟨w.heap.size, 4, none⟩ = some (.slice ao da.length cap) := cell_of_block HS.out.eb 4
      clear hcw19
      have HSm := hid (fSum_any L12 _ w20 HS.out.rd)
      rw [if_pos HS.out.len] at HSm
      have HF := hid (HEnd.out L12 (by rw [HL12.out, HL11.out, HL10.out, HL9.out, HL8.out, HL7.out, HL6.out, HL5.out, HL4.out, HL3.out, HL2.out]; rfl))
      have hsb := sumH_bounds HS.out.len
      obtain ⟨sm, hsm⟩ : ∃ sm : Nat, sumH L12 = (sm : Int) := ⟨(sumH L12).toNat, by omega⟩
      rw [hsm] at HSm HF
      rw [Int.toNat_natCast] at HF
      have HSb : Hid (sm ≤ 8589934592) := by unfold Hid; omega
      clear hsb hsm
      go_wp2_with fail
      refine HSm.out.mono ?_
      rintro e w21 ⟨rfl, rfl⟩
      go_wp2_with fail
      refine (HS.out.oct8 (sm) (HSb.out)).mono ?_
      rintro e w22 ⟨⟨vw22, rfl, aw22, lw22, cw22, rfl, hcw22⟩, hS⟩
      clear HS c0 c1 c2 c3 c4
      have HS := hid hS
      clear hS; have c0 : w22.cell? ⟨w.heap.size, 0, none⟩ = some (str nm) := cell_of_block HS.out.eb 0; have c1 : w22.cell? ⟨w.heap.size, 1, none⟩ = some (.int .i64 1) := cell_of_block HS.out.eb 1; have c2 : w22.cell? ⟨w.heap.size, 2, none⟩ = some (.int .i64 (md : Nat)) := cell_of_block HS.out.eb 2; have c3 : w22.cell? ⟨w.heap.size, 3, none⟩ = some (str lk) := cell_of_block HS.out.eb 3; have c4 : w22.cell? ⟨w.heap.size, 4, none⟩ = some (.slice ao da.length cap) := cell_of_block HS.out.eb 4
      go_wp2_with fail
      refine (HS.out.fput 148 (oct (sm) 7 ++ [0]) (by rw [octN]; omega)).mono ?_
      rintro e w23 ⟨⟨vw23, rfl⟩, L13, hL13, hS⟩
      have HL13 := hid hL13
      clear HS hL13 c0 c1 c2 c3 c4
      have HS := hid hS
      clear hS; have c0 : w23.cell? ⟨w.heap.size, 0, none⟩ = some (str nm) := cell_of_block HS.out.eb 0; have c1 : w23.cell? ⟨w.heap.size, 1, none⟩ = some (.int .i64 1) := cell_of_block HS.out.eb 1; have c2 : w23.cell? ⟨w.heap.size, 2, none⟩ = some (.int .i64 (md : Nat)) := cell_of_block HS.out.eb 2; have c3 : w23.cell? ⟨w.heap.size, 3, none⟩ = some (str lk) := cell_of_block HS.out.eb 3; have c4 : w23.cell? ⟨w.heap.size, 4, none⟩ = some (.slice ao da.length cap) := cell_of_block HS.out.eb 4
      clear hcw22
      have HFin : Hid (Below w.heap.size w w23 ∧ blkB w23 g ((blkE ⟨nm, 1, md, lk, da⟩).take 512)) := ⟨HS.out.below, by rw [← HF.out, ← HL13.out]; exact HS.out.blk⟩
      clear HS HF HL13
      go_wp2
      go_ret
      exact ⟨g, rfl, Nat.le_of_lt HG.out, HFin.out.1, HFin.out.2⟩
    · have c7 : (w13.alloc (.cells #[.int .u8 0, .int .u8 48, .int .u8 53, .int .u8 50, .int .u8 49] 5)).cell? ⟨w13.heap.size, 2, none⟩ = some (.int .u8 53) := cell_of_block hbo 2
      clear hbo
      go_upto_region 13 with fail
      generalize hW : World.setCell (World.alloc w13 _) _ _ = w14
      obtain ⟨L8, hL8⟩ : ∃ L8, L8 = wrt L7 156 [typeP 2] := ⟨_, rfl⟩
      have HL8 := hid hL8
      clear HS c0 c1 c2 c3 c4 c6 f6 c7
      have HS : Hid (HdS w w14 g #[str nm, .int .i64 2, .int .i64 (md : Nat), str lk, .slice ao da.length cap] L8) := by unfold Hid; rw [hL8, ← hW]; exact HS2.out 53
      clear hW hL8 HS2
      have c0 : w14.cell? ⟨w.heap.size, 0, none⟩ = some (str nm) := cell_of_block HS.out.eb 0; have c1 : w14.cell? ⟨w.heap.size, 1, none⟩ = some (.int .i64 2) := cell_of_block HS.out.eb 1; have c2 : w14.cell? ⟨w.heap.size, 2, none⟩ = some (.int .i64 (md : Nat)) := cell_of_block HS.out.eb 2; have c3 : w14.cell? ⟨w.heap.size, 3, none⟩ = some (str lk) := cell_of_block HS.out.eb 3; have c4 : w14.cell? ⟨w.heap.size, 4, none⟩ = some (.slice ao da.length cap) := cell_of_block HS.out.eb 4
      go_wp2_with fail
      refine (HS.out.fput 157 (lk) (by have := HLL.out; omega)).mono ?_
      rintro e w15 ⟨⟨vw15, rfl⟩, L9, hL9, hS⟩
      have HL9 := hid hL9
      clear HS hL9 c0 c1 c2 c3 c4
      have HS := hid hS
      clear hS; have c0 : w15.cell? ⟨w.heap.size, 0, none⟩ = some (str nm) := cell_of_block HS.out.eb 0; have c1 : w15.cell? ⟨w.heap.size, 1, none⟩ = some (.int .i64 2) := cell_of_block HS.out.eb 1; have c2 : w15.cell? ⟨w.heap.size, 2, none⟩ = some (.int .i64 (md : Nat)) := cell_of_block HS.out.eb 2; have c3 : w15.cell? ⟨w.heap.size, 3, none⟩ = some (str lk) := cell_of_block HS.out.eb 3; have c4 : w15.cell? ⟨w.heap.size, 4, none⟩ = some (.slice ao da.length cap) := cell_of_block HS.out.eb 4
      go_wp2_with fail
      refine (HS.out.fput 257 (signB) (by show 257 + 8 ≤ 512; omega)).mono ?_
      rintro e w16 ⟨⟨vw16, rfl⟩, L10, hL10, hS⟩
      have HL10 := hid hL10
      clear HS hL10 c0 c1 c2 c3 c4
      have HS := hid hS
      clear hS; have c0 : w16.cell? ⟨w.heap.size, 0, none⟩ = some (str nm) := cell_of_block HS.out.eb 0; have c1 : w16.cell? ⟨w.heap.size, 1, none⟩ = some (.int .i64 2) := cell_of_block HS.out.eb 1; have c2 : w16.cell? ⟨w.heap.size, 2, none⟩ = some (.int .i64 (md : Nat)) := cell_of_block HS.out.eb 2; have c3 : w16.cell? ⟨w.heap.size, 3, none⟩ = some (str lk) := cell_of_block HS.out.eb 3; have c4 : w16.cell? ⟨w.heap.size, 4, none⟩ = some (.slice ao da.length cap) := cell_of_block HS.out.eb 4
      go_wp2_with fail
      refine (HS.out.oct8 (0) (by omega)).mono ?_
      rintro e w17 ⟨⟨vw17, rfl, aw17, lw17, cw17, rfl, hcw17⟩, hS⟩
      clear HS c0 c1 c2 c3 c4
      have HS := hid hS
      clear hS; have c0 : w17.cell? ⟨w.heap.size, 0, none⟩ = some (str nm) := cell_of_block HS.out.eb 0; have c1 : w17.cell? ⟨w.heap.size, 1, none⟩ = some (.int .i64 2) := cell_of_block HS.out.eb 1; have c2 : w17.cell? ⟨w.heap.size, 2, none⟩ = some (.int .i64 (md : Nat)) := cell_of_block HS.out.eb 2; have c3 : w17.cell? ⟨w.heap.size, 3, none⟩ = some (str lk) := cell_of_block HS.out.eb 3; have c4 : w17.cell? ⟨w.heap.size, 4, none⟩ = some (.slice ao da.length cap) := cell_of_block HS.out.eb 4
      go_wp2_with fail
      refine (HS.out.fput 329 (oct (0) 7 ++ [0]) (by rw [octN]; omega)).mono ?_
      rintro e w18 ⟨⟨vw18, rfl⟩, L11, hL11, hS⟩
      have HL11 := hid hL11
      clear HS hL11 c0 c1 c2 c3 c4
      have HS := hid hS
      clear hS; have c0 : w18.cell? ⟨w.heap.size, 0, none⟩ = some (str nm) := cell_of_block HS.out.eb 0; have c1 : w18.cell? ⟨w.heap.size, 1, none⟩ = some (.int .i64 2) := cell_of_block HS.out.eb 1; have c2 : w18.cell? ⟨w.heap.size, 2, none⟩ = some (.int .i64 (md : Nat)) := cell_of_block HS.out.eb 2; have c3 : w18.cell? ⟨w.heap.size, 3, none⟩ = some (str lk) := cell_of_block HS.out.eb 3; have c4 : w18.cell? ⟨w.heap.size, 4, none⟩ = some (.slice ao da.length cap) := cell_of_block HS.out.eb 4
      clear hcw17
      go_wp2_with fail
      refine (HS.out.oct8 (0) (by omega)).mono ?_
      rintro e w19 ⟨⟨vw19, rfl, aw19, lw19, cw19, rfl, hcw19⟩, hS⟩
      clear HS c0 c1 c2 c3 c4
      have HS := hid hS
      clear hS; have c0 : w19.cell? ⟨w.heap.size, 0, none⟩ = some (str nm) := cell_of_block HS.out.eb 0; have c1 : w19.cell? ⟨w.heap.size, 1, none⟩ = some (.int .i64 2) := cell_of_block HS.out.eb 1; have c2 : w19.cell? ⟨w.heap.size, 2, none⟩ = some (.int .i64 (md : Nat)) := cell_of_block HS.out.eb 2; have c3 : w19.cell? ⟨w.heap.size, 3, none⟩ = some (str lk) := cell_of_block HS.out.eb 3; have c4 : w19.cell? ⟨w.heap.size, 4, none⟩ = some (.slice ao da.length cap) := cell_of_block HS.out.eb 4
      go_wp2_with fail
      refine (HS.out.fput 337 (oct (0) 7 ++ [0]) (by rw [octN]; omega)).mono ?_
      rintro e w20 ⟨⟨vw20, rfl⟩, L12, hL12, hS⟩
      have HL12 := hid hL12
      clear HS hL12 c0 c1 c2 c3 c4
      have HS := hid hS
      clear hS; have c0 : w20.cell? ⟨w.heap.size, 0, none⟩ = some (str nm) := cell_of_block HS.out.eb 0; have c1 : w20.cell? ⟨w.heap.size, 1, none⟩ = some (.int .i64 2) := cell_of_block HS.out.eb 1; have c2 : w20.cell? ⟨w.heap.size, 2, none⟩ = some (.int .i64 (md : Nat)) := cell_of_block HS.out.eb 2; have c3 : w20.cell? ⟨w.heap.size, 3, none⟩ = some (str lk) := cell_of_block HS.out.eb 3; have c4 : w20.cell? ⟨w.heap.size, 4, none⟩ = some (.slice ao da.length cap) := cell_of_block HS.out.eb 4
      clear hcw19
      have HSm := hid (fSum_any L12 _ w20 HS.out.rd)
      rw [if_pos HS.out.len] at HSm
      have HF := hid (HEnd.out L12 (by rw [HL12.out, HL11.out, HL10.out, HL9.out, HL8.out, HL7.out, HL6.out, HL5.out, HL4.out, HL3.out, HL2.out]; rfl))
      have hsb := sumH_bounds HS.out.len
      obtain ⟨sm, hsm⟩ : ∃ sm : Nat, sumH L12 = (sm : Int) := ⟨(sumH L12).toNat, by omega⟩
      rw [hsm] at HSm HF
      rw [Int.toNat_natCast] at HF
      have HSb : Hid (sm ≤ 8589934592) := by unfold Hid; omega
      clear hsb hsm
      go_wp2_with fail
      refine HSm.out.mono ?_
      rintro e w21 ⟨rfl, rfl⟩
      go_wp2_with fail
      refine (HS.out.oct8 (sm) (HSb.out)).mono ?_
      rintro e w22 ⟨⟨vw22, rfl, aw22, lw22, cw22, rfl, hcw22⟩, hS⟩
      clear HS c0 c1 c2 c3 c4
      have HS := hid hS
      clear hS; have c0 : w22.cell? ⟨w.heap.size, 0, none⟩ = some (str nm) := cell_of_block HS.out.eb 0; have c1 : w22.cell? ⟨w.heap.size, 1, none⟩ = some (.int .i64 2) := cell_of_block HS.out.eb 1; have c2 : w22.cell? ⟨w.heap.size, 2, none⟩ = some (.int .i64 (md : Nat)) := cell_of_block HS.out.eb 2; have c3 : w22.cell? ⟨w.heap.size, 3, none⟩ = some (str lk) := cell_of_block HS.out.eb 3; have c4 : w22.cell? ⟨w.heap.size, 4, none⟩ = some (.slice ao da.length cap) := cell_of_block HS.out.eb 4
      go_wp2_with fail
      refine (HS.out.fput 148 (oct (sm) 7 ++ [0]) (by rw [octN]; omega)).mono ?_
      rintro e w23 ⟨⟨vw23, rfl⟩, L13, hL13, hS⟩
      have HL13 := hid hL13
      clear HS hL13 c0 c1 c2 c3 c4
      have HS := hid hS
      clear hS; have c0 : w23.cell? ⟨w.heap.size, 0, none⟩ = some (str nm) := cell_of_block HS.out.eb 0; have c1 : w23.cell? ⟨w.heap.size, 1, none⟩ = some (.int .i64 2) := cell_of_block HS.out.eb 1; have c2 : w23.cell? ⟨w.heap.size, 2, none⟩ = some (.int .i64 (md : Nat)) := cell_of_block HS.out.eb 2; have c3 : w23.cell? ⟨w.heap.size, 3, none⟩ = some (str lk) := cell_of_block HS.out.eb 3; have c4 : w23.cell? ⟨w.heap.size, 4, none⟩ = some (.slice ao da.length cap) := cell_of_block HS.out.eb 4
      clear hcw22
      have HFin : Hid (Below w.heap.size w w23 ∧ blkB w23 g ((blkE ⟨nm, 2, md, lk, da⟩).take 512)) := ⟨HS.out.below, by rw [← HF.out, ← HL13.out]; exact HS.out.blk⟩
      clear HS HF HL13
      go_wp2
      go_ret
      exact ⟨g, rfl, Nat.le_of_lt HG.out, HFin.out.1, HFin.out.2⟩
    · have c7 : (w13.alloc (.cells #[.int .u8 0, .int .u8 48, .int .u8 53, .int .u8 50, .int .u8 49] 5)).cell? ⟨w13.heap.size, 3, none⟩ = some (.int .u8 50) := cell_of_block hbo 3
      clear hbo
      go_upto_region 13 with fail
      generalize hW : World.setCell (World.alloc w13 _) _ _ = w14
      obtain ⟨L8, hL8⟩ : ∃ L8, L8 = wrt L7 156 [typeP 3] := ⟨_, rfl⟩
      have HL8 := hid hL8
      clear HS c0 c1 c2 c3 c4 c6 f6 c7
      have HS : Hid (HdS w w14 g #[str nm, .int .i64 3, .int .i64 (md : Nat), str lk, .slice ao da.length cap] L8) := by unfold Hid; rw [hL8, ← hW]; exact HS2.out 50
      clear hW hL8 HS2
      have c0 : w14.cell? ⟨w.heap.size, 0, none⟩ = some (str nm) := cell_of_block HS.out.eb 0; have c1 : w14.cell? ⟨w.heap.size, 1, none⟩ = some (.int .i64 3) := cell_of_block HS.out.eb 1; have c2 : w14.cell? ⟨w.heap.size, 2, none⟩ = some (.int .i64 (md : Nat)) := cell_of_block HS.out.eb 2; have c3 : w14.cell? ⟨w.heap.size, 3, none⟩ = some (str lk) := cell_of_block HS.out.eb 3; have c4 : w14.cell? ⟨w.heap.size, 4, none⟩ = some (.slice ao da.length cap) := cell_of_block HS.out.eb 4
      go_wp2_with fail
      refine (HS.out.fput 157 (lk) (by have := HLL.out; omega)).mono ?_
      rintro e w15 ⟨⟨vw15, rfl⟩, L9, hL9, hS⟩
      have HL9 := hid hL9
      clear HS hL9 c0 c1 c2 c3 c4
      have HS := hid hS
      clear hS; have c0 : w15.cell? ⟨w.heap.size, 0, none⟩ = some (str nm) := cell_of_block HS.out.eb 0; have c1 : w15.cell? ⟨w.heap.size, 1, none⟩ = some (.int .i64 3) := cell_of_block HS.out.eb 1; have c2 : w15.cell? ⟨w.heap.size, 2, none⟩ = some (.int .i64 (md : Nat)) := cell_of_block HS.out.eb 2; have c3 : w15.cell? ⟨w.heap.size, 3, none⟩ = some (str lk) := cell_of_block HS.out.eb 3; have c4 : w15.cell? ⟨w.heap.size, 4, none⟩ = some (.slice ao da.length cap) := cell_of_block HS.out.eb 4
      go_wp2_with fail
      refine (HS.out.fput 257 (signB) (by show 257 + 8 ≤ 512; omega)).mono ?_
      rintro e w16 ⟨⟨vw16, rfl⟩, L10, hL10, hS⟩
      have HL10 := hid hL10
      clear HS hL10 c0 c1 c2 c3 c4
      have HS := hid hS
      clear hS; have c0 : w16.cell? ⟨w.heap.size, 0, none⟩ = some (str nm) := cell_of_block HS.out.eb 0; have c1 : w16.cell? ⟨w.heap.size, 1, none⟩ = some (.int .i64 3) := cell_of_block HS.out.eb 1; have c2 : w16.cell? ⟨w.heap.size, 2, none⟩ = some (.int .i64 (md : Nat)) := cell_of_block HS.out.eb 2; have c3 : w16.cell? ⟨w.heap.size, 3, none⟩ = some (str lk) := cell_of_block HS.out.eb 3; have c4 : w16.cell? ⟨w.heap.size, 4, none⟩ = some (.slice ao da.length cap) := cell_of_block HS.out.eb 4
      go_wp2_with fail
      refine (HS.out.oct8 (0) (by omega)).mono ?_
      rintro e w17 ⟨⟨vw17, rfl, aw17, lw17, cw17, rfl, hcw17⟩, hS⟩
      clear HS c0 c1 c2 c3 c4
      have HS := hid hS
      clear hS; have c0 : w17.cell? ⟨w.heap.size, 0, none⟩ = some (str nm) := cell_of_block HS.out.eb 0; have c1 : w17.cell? ⟨w.heap.size, 1, none⟩ = some (.int .i64 3) := cell_of_block HS.out.eb 1; have c2 : w17.cell? ⟨w.heap.size, 2, none⟩ = some (.int .i64 (md : Nat)) := cell_of_block HS.out.eb 2; have c3 : w17.cell? ⟨w.heap.size, 3, none⟩ = some (str lk) := cell_of_block HS.out.eb 3; have c4 : w17.cell? ⟨w.heap.size, 4, none⟩ = some (.slice ao da.length cap) := cell_of_block HS.out.eb 4
      go_wp2_with fail
      refine (HS.out.fput 329 (oct (0) 7 ++ [0]) (by rw [octN]; omega)).mono ?_
      rintro e w18 ⟨⟨vw18, rfl⟩, L11, hL11, hS⟩
      have HL11 := hid hL11
      clear HS hL11 c0 c1 c2 c3 c4
      have HS := hid hS
      clear hS; have c0 : w18.cell? ⟨w.heap.size, 0, none⟩ = some (str nm) := cell_of_block HS.out.eb 0; have c1 : w18.cell? ⟨w.heap.size, 1, none⟩ = some (.int .i64 3) := cell_of_block HS.out.eb 1; have c2 : w18.cell? ⟨w.heap.size, 2, none⟩ = some (.int .i64 (md : Nat)) := cell_of_block HS.out.eb 2; have c3 : w18.cell? ⟨w.heap.size, 3, none⟩ = some (str lk) := cell_of_block HS.out.eb 3; have c4 : w18.cell? ⟨w.heap.size, 4, none⟩ = some (.slice ao da.length cap) := cell_of_block HS.out.eb 4
      clear hcw17
      go_wp2_with fail
      refine (HS.out.oct8 (0) (by omega)).mono ?_
      rintro e w19 ⟨⟨vw19, rfl, aw19, lw19, cw19, rfl, hcw19⟩, hS⟩
      clear HS c0 c1 c2 c3 c4
      have HS := hid hS
      clear hS; have c0 : w19.cell? ⟨w.heap.size, 0, none⟩ = some (str nm) := cell_of_block HS.out.eb 0; have c1 : w19.cell? ⟨w.heap.size, 1, none⟩ = some (.int .i64 3) := cell_of_block HS.out.eb 1; have c2 : w19.cell? ⟨w.heap.size, 2, none⟩ = some (.int .i64 (md : Nat)) := cell_of_block HS.out.eb 2; have c3 : w19.cell? ⟨w.heap.size, 3, none⟩ = some (str lk) := cell_of_block HS.out.eb 3; have c4 : w19.cell? ⟨w.heap.size, 4, none⟩ = some (.slice ao da.length cap) := cell_of_block HS.out.eb 4
      go_wp2_with fail
      refine (HS.out.fput 337 (oct (0) 7 ++ [0]) (by rw [octN]; omega)).mono ?_
      rintro e w20 ⟨⟨vw20, rfl⟩, L12, hL12, hS⟩
      have HL12 := hid hL12
      clear HS hL12 c0 c1 c2 c3 c4
      have HS := hid hS
      clear hS; have c0 : w20.cell? ⟨w.heap.size, 0, none⟩ = some (str nm) := cell_of_block HS.out.eb 0; have c1 : w20.cell? ⟨w.heap.size, 1, none⟩ = some (.int .i64 3) := cell_of_block HS.out.eb 1; have c2 : w20.cell? ⟨w.heap.size, 2, none⟩ = some (.int .i64 (md : Nat)) := cell_of_block HS.out.eb 2; have c3 : w20.cell? ⟨w.heap.size, 3, none⟩ = some (str lk) := cell_of_block HS.out.eb 3; have c4 : w20.cell? ⟨w.heap.size, 4, none⟩ = some (.slice ao da.length cap) := cell_of_block HS.out.eb 4
      clear hcw19
      have HSm := hid (fSum_any L12 _ w20 HS.out.rd)
      rw [if_pos HS.out.len] at HSm
      have HF := hid (HEnd.out L12 (by rw [HL12.out, HL11.out, HL10.out, HL9.out, HL8.out, HL7.out, HL6.out, HL5.out, HL4.out, HL3.out, HL2.out]; rfl))
      have hsb := sumH_bounds HS.out.len
      obtain ⟨sm, hsm⟩ : ∃ sm : Nat, sumH L12 = (sm : Int) := ⟨(sumH L12).toNat, by omega⟩
      rw [hsm] at HSm HF
      rw [Int.toNat_natCast] at HF
      have HSb : Hid (sm ≤ 8589934592) := by unfold Hid; omega
      clear hsb hsm
      go_wp2_with fail
      refine HSm.out.mono ?_
      rintro e w21 ⟨rfl, rfl⟩
      go_wp2_with fail
      refine (HS.out.oct8 (sm) (HSb.out)).mono ?_
      rintro e w22 ⟨⟨vw22, rfl, aw22, lw22, cw22, rfl, hcw22⟩, hS⟩
      clear HS c0 c1 c2 c3 c4
      have HS := hid hS
      clear hS; have c0 : w22.cell? ⟨w.heap.size, 0, none⟩ = some (str nm) := cell_of_block HS.out.eb 0; have c1 : w22.cell? ⟨w.heap.size, 1, none⟩ = some (.int .i64 3) := cell_of_block HS.out.eb 1; have c2 : w22.cell? ⟨w.heap.size, 2, none⟩ = some (.int .i64 (md : Nat)) := cell_of_block HS.out.eb 2; have c3 : w22.cell? ⟨w.heap.size, 3, none⟩ = some (str lk) := cell_of_block HS.out.eb 3; have c4 : w22.cell? ⟨w.heap.size, 4, none⟩ = some (.slice ao da.length cap) := cell_of_block HS.out.eb 4
      go_wp2_with fail
      refine (HS.out.fput 148 (oct (sm) 7 ++ [0]) (by rw [octN]; omega)).mono ?_
      rintro e w23 ⟨⟨vw23, rfl⟩, L13, hL13, hS⟩
      have HL13 := hid hL13
      clear HS hL13 c0 c1 c2 c3 c4
      have HS := hid hS
      clear hS; have c0 : w23.cell? ⟨w.heap.size, 0, none⟩ = some (str nm) := cell_of_block HS.out.eb 0; have c1 : w23.cell? ⟨w.heap.size, 1, none⟩ = some (.int .i64 3) := cell_of_block HS.out.eb 1; have c2 : w23.cell? ⟨w.heap.size, 2, none⟩ = some (.int .i64 (md : Nat)) := cell_of_block HS.out.eb 2; have c3 : w23.cell? ⟨w.heap.size, 3, none⟩ = some (str lk) := cell_of_block HS.out.eb 3; have c4 : w23.cell? ⟨w.heap.size, 4, none⟩ = some (.slice ao da.length cap) := cell_of_block HS.out.eb 4
      clear hcw22
      have HFin : Hid (Below w.heap.size w w23 ∧ blkB w23 g ((blkE ⟨nm, 3, md, lk, da⟩).take 512)) := ⟨HS.out.below, by rw [← HF.out, ← HL13.out]; exact HS.out.blk⟩
      clear HS HF HL13
      go_wp2
      go_ret
      exact ⟨g, rfl, Nat.le_of_lt HG.out, HFin.out.1, HFin.out.2⟩
    · have c7 : (w13.alloc (.cells #[.int .u8 0, .int .u8 48, .int .u8 53, .int .u8 50, .int .u8 49] 5)).cell? ⟨w13.heap.size, 4, none⟩ = some (.int .u8 49) := cell_of_block hbo 4
      clear hbo
      go_upto_region 13 with fail
      generalize hW : World.setCell (World.alloc w13 _) _ _ = w14
      obtain ⟨L8, hL8⟩ : ∃ L8, L8 = wrt L7 156 [typeP 4] := ⟨_, rfl⟩
      have HL8 := hid hL8
      clear HS c0 c1 c2 c3 c4 c6 f6 c7
      have HS : Hid (HdS w w14 g #[str nm, .int .i64 4, .int .i64 (md : Nat), str lk, .slice ao da.length cap] L8) := by unfold Hid; rw [hL8, ← hW]; exact HS2.out 49
      clear hW hL8 HS2
      have c0 : w14.cell? ⟨w.heap.size, 0, none⟩ = some (str nm) := cell_of_block HS.out.eb 0; have c1 : w14.cell? ⟨w.heap.size, 1, none⟩ = some (.int .i64 4) := cell_of_block HS.out.eb 1; have c2 : w14.cell? ⟨w.heap.size, 2, none⟩ = some (.int .i64 (md : Nat)) := cell_of_block HS.out.eb 2; have c3 : w14.cell? ⟨w.heap.size, 3, none⟩ = some (str lk) := cell_of_block HS.out.eb 3; have c4 : w14.cell? ⟨w.heap.size, 4, none⟩ = some (.slice ao da.length cap) := cell_of_block HS.out.eb 4
      go_wp2_with fail
      refine (HS.out.fput 157 (lk) (by have := HLL.out; omega)).mono ?_
      rintro e w15 ⟨⟨vw15, rfl⟩, L9, hL9, hS⟩
      have HL9 := hid hL9
      clear HS hL9 c0 c1 c2 c3 c4
      have HS := hid hS
      clear hS; have c0 : w15.cell? ⟨w.heap.size, 0, none⟩ = some (str nm) := cell_of_block HS.out.eb 0; have c1 : w15.cell? ⟨w.heap.size, 1, none⟩ = some (.int .i64 4) := cell_of_block HS.out.eb 1; have c2 : w15.cell? ⟨w.heap.size, 2, none⟩ = some (.int .i64 (md : Nat)) := cell_of_block HS.out.eb 2; have c3 : w15.cell? ⟨w.heap.size, 3, none⟩ = some (str lk) := cell_of_block HS.out.eb 3; have c4 : w15.cell? ⟨w.heap.size, 4, none⟩ = some (.slice ao da.length cap) := cell_of_block HS.out.eb 4
      go_wp2_with fail
      refine (HS.out.fput 257 (signB) (by show 257 + 8 ≤ 512; omega)).mono ?_
      rintro e w16 ⟨⟨vw16, rfl⟩, L10, hL10, hS⟩
      have HL10 := hid hL10
      clear HS hL10 c0 c1 c2 c3 c4
      have HS := hid hS
      clear hS; have c0 : w16.cell? ⟨w.heap.size, 0, none⟩ = some (str nm) := cell_of_block HS.out.eb 0; have c1 : w16.cell? ⟨w.heap.size, 1, none⟩ = some (.int .i64 4) := cell_of_block HS.out.eb 1; have c2 : w16.cell? ⟨w.heap.size, 2, none⟩ = some (.int .i64 (md : Nat)) := cell_of_block HS.out.eb 2; have c3 : w16.cell? ⟨w.heap.size, 3, none⟩ = some (str lk) := cell_of_block HS.out.eb 3; have c4 : w16.cell? ⟨w.heap.size, 4, none⟩ = some (.slice ao da.length cap) := cell_of_block HS.out.eb 4
      go_wp2_with fail
      refine (HS.out.oct8 (0) (by omega)).mono ?_
      rintro e w17 ⟨⟨vw17, rfl, aw17, lw17, cw17, rfl, hcw17⟩, hS⟩
      clear HS c0 c1 c2 c3 c4
      have HS := hid hS
      clear hS; have c0 : w17.cell? ⟨w.heap.size, 0, none⟩ = some (str nm) := cell_of_block HS.out.eb 0; have c1 : w17.cell? ⟨w.heap.size, 1, none⟩ = some (.int .i64 4) := cell_of_block HS.out.eb 1; have c2 : w17.cell? ⟨w.heap.size, 2, none⟩ = some (.int .i64 (md : Nat)) := cell_of_block HS.out.eb 2; have c3 : w17.cell? ⟨w.heap.size, 3, none⟩ = some (str lk) := cell_of_block HS.out.eb 3; have c4 : w17.cell? ⟨w.heap.size, 4, none⟩ = some (.slice ao da.length cap) := cell_of_block HS.out.eb 4
      go_wp2_with fail
      refine (HS.out.fput 329 (oct (0) 7 ++ [0]) (by rw [octN]; omega)).mono ?_
      rintro e w18 ⟨⟨vw18, rfl⟩, L11, hL11, hS⟩
      have HL11 := hid hL11
      clear HS hL11 c0 c1 c2 c3 c4
      have HS := hid hS
      clear hS; have c0 : w18.cell? ⟨w.heap.size, 0, none⟩ = some (str nm) := cell_of_block HS.out.eb 0; have c1 : w18.cell? ⟨w.heap.size, 1, none⟩ = some (.int .i64 4) := cell_of_block HS.out.eb 1; have c2 : w18.cell? ⟨w.heap.size, 2, none⟩ = some (.int .i64 (md : Nat)) := cell_of_block HS.out.eb 2; have c3 : w18.cell? ⟨w.heap.size, 3, none⟩ = some (str lk) := cell_of_block HS.out.eb 3; have c4 : w18.cell? ⟨w.heap.size, 4, none⟩ = some (.slice ao da.length cap) := cell_of_block HS.out.eb 4
      clear hcw17
      go_wp2_with fail
      refine (HS.out.oct8 (0) (by omega)).mono ?_
      rintro e w19 ⟨⟨vw19, rfl, aw19, lw19, cw19, rfl, hcw19⟩, hS⟩
      clear HS c0 c1 c2 c3 c4
      have HS := hid hS
      clear hS; have c0 : w19.cell? ⟨w.heap.size, 0, none⟩ = some (str nm) := cell_of_block HS.out.eb 0; have c1 : w19.cell? ⟨w.heap.size, 1, none⟩ = some (.int .i64 4) := cell_of_block HS.out.eb 1; have c2 : w19.cell? ⟨w.heap.size, 2, none⟩ = some (.int .i64 (md : Nat)) := cell_of_block HS.out.eb 2; have c3 : w19.cell? ⟨w.heap.size, 3, none⟩ = some (str lk) := cell_of_block HS.out.eb 3; have c4 : w19.cell? ⟨w.heap.size, 4, none⟩ = some (.slice ao da.length cap) := cell_of_block HS.out.eb 4
      go_wp2_with fail
      refine (HS.out.fput 337 (oct (0) 7 ++ [0]) (by rw [octN]; omega)).mono ?_
      rintro e w20 ⟨⟨vw20, rfl⟩, L12, hL12, hS⟩
      have HL12 := hid hL12
      clear HS hL12 c0 c1 c2 c3 c4
      have HS := hid hS
      clear hS; have c0 : w20.cell? ⟨w.heap.size, 0, none⟩ = some (str nm) := cell_of_block HS.out.eb 0; have c1 : w20.cell? ⟨w.heap.size, 1, none⟩ = some (.int .i64 4) := cell_of_block HS.out.eb 1; have c2 : w20.cell? ⟨w.heap.size, 2, none⟩ = some (.int .i64 (md : Nat)) := cell_of_block HS.out.eb 2; have c3 : w20.cell? ⟨w.heap.size, 3, none⟩ = some (str lk) := cell_of_block HS.out.eb 3; have c4 : w20.cell? ⟨w.heap.size, 4, none⟩ = some (.slice ao da.length cap) := cell_of_block HS.out.eb 4
      clear hcw19
      have HSm := hid (fSum_any L12 _ w20 HS.out.rd)
      rw [if_pos HS.out.len] at HSm
      have HF := hid (HEnd.out L12 (by rw [HL12.out, HL11.out, HL10.out, HL9.out, HL8.out, HL7.out, HL6.out, HL5.out, HL4.out, HL3.out, HL2.out]; rfl))
      have hsb := sumH_bounds HS.out.len
      obtain ⟨sm, hsm⟩ : ∃ sm : Nat, sumH L12 = (sm : Int) := ⟨(sumH L12).toNat, by omega⟩
      rw [hsm] at HSm HF
      rw [Int.toNat_natCast] at HF
      have HSb : Hid (sm ≤ 8589934592) := by unfold Hid; omega
      clear hsb hsm
      go_wp2_with fail
      refine HSm.out.mono ?_
      rintro e w21 ⟨rfl, rfl⟩
      go_wp2_with fail
      refine (HS.out.oct8 (sm) (HSb.out)).mono ?_
      rintro e w22 ⟨⟨vw22, rfl, aw22, lw22, cw22, rfl, hcw22⟩, hS⟩
      clear HS c0 c1 c2 c3 c4
      have HS := hid hS
      clear hS; have c0 : w22.cell? ⟨w.heap.size, 0, none⟩ = some (str nm) := cell_of_block HS.out.eb 0; have c1 : w22.cell? ⟨w.heap.size, 1, none⟩ = some (.int .i64 4) := cell_of_block HS.out.eb 1; have c2 : w22.cell? ⟨w.heap.size, 2, none⟩ = some (.int .i64 (md : Nat)) := cell_of_block HS.out.eb 2; have c3 : w22.cell? ⟨w.heap.size, 3, none⟩ = some (str lk) := cell_of_block HS.out.eb 3; have c4 : w22.cell? ⟨w.heap.size, 4, none⟩ = some (.slice ao da.length cap) := cell_of_block HS.out.eb 4
      go_wp2_with fail
      refine (HS.out.fput 148 (oct (sm) 7 ++ [0]) (by rw [octN]; omega)).mono ?_
      rintro e w23 ⟨⟨vw23, rfl⟩, L13, hL13, hS⟩
      have HL13 := hid hL13
      clear HS hL13 c0 c1 c2 c3 c4
      have HS := hid hS
      clear hS; have c0 : w23.cell? ⟨w.heap.size, 0, none⟩ = some (str nm) := cell_of_block HS.out.eb 0; have c1 : w23.cell? ⟨w.heap.size, 1, none⟩ = some (.int .i64 4) := cell_of_block HS.out.eb 1; have c2 : w23.cell? ⟨w.heap.size, 2, none⟩ = some (.int .i64 (md : Nat)) := cell_of_block HS.out.eb 2; have c3 : w23.cell? ⟨w.heap.size, 3, none⟩ = some (str lk) := cell_of_block HS.out.eb 3; have c4 : w23.cell? ⟨w.heap.size, 4, none⟩ = some (.slice ao da.length cap) := cell_of_block HS.out.eb 4
      clear hcw22
      have HFin : Hid (Below w.heap.size w w23 ∧ blkB w23 g ((blkE ⟨nm, 4, md, lk, da⟩).take 512)) := ⟨HS.out.below, by rw [← HF.out, ← HL13.out]; exact HS.out.blk⟩
      clear HS HF HL13
      go_wp2
      go_ret
      exact ⟨g, rfl, Nat.le_of_lt HG.out, HFin.out.1, HFin.out.2⟩
  · have hp0 : 0 < p.length := List.length_pos_iff.2 h0
    have hT := HPr.out h0
    have HT1 := hid hT.1
    have HT2 : Hid ((nm.drop (p.length + 1)).take (nm.length - (p.length + 1)) = r) := by unfold Hid; rw [List.take_of_length_le (by rw [List.length_drop]; exact Nat.le_refl _)]; exact hT.2.1
    have q0 : (p.length : Int) > 0 := by omega
    have q1 : (0 : Int) ≤ (p.length : Int) := by omega
    have q2 : (p.length : Int) ≤ (nm.length : Int) := by have := hT.2.2; omega
    have q3 : (p.length : Int) + 1 ≤ (nm.length : Int) := by have := hT.2.2; omega
    have q4 : (0 : Int) ≤ (p.length : Int) + 1 := by omega
    have q5 : (nm.length : Int) ≤ 255 := by omega
    clear hT h0
    go_wp2_with fail
    rw [extract_str, List.drop_zero, Nat.sub_zero, HT1.out]
    refine (HS.out.fput 345 (p) (by have := HPL.out.1; omega)).mono ?_
    rintro e w2a ⟨⟨vw2a, rfl⟩, L1, hL1, hS⟩
    have HL1 := hid hL1
    clear HS hL1 c0 c1 c2 c3 c4
    have HS := hid hS
    clear hS; have c0 : w2a.cell? ⟨w.heap.size, 0, none⟩ = some (str nm) := cell_of_block HS.out.eb 0; have c1 : w2a.cell? ⟨w.heap.size, 1, none⟩ = some (.int .i64 kd) := cell_of_block HS.out.eb 1; have c2 : w2a.cell? ⟨w.heap.size, 2, none⟩ = some (.int .i64 (md : Nat)) := cell_of_block HS.out.eb 2; have c3 : w2a.cell? ⟨w.heap.size, 3, none⟩ = some (str lk) := cell_of_block HS.out.eb 3; have c4 : w2a.cell? ⟨w.heap.size, 4, none⟩ = some (.slice ao da.length cap) := cell_of_block HS.out.eb 4
    go_wp2_with fail
    rw [extract_str, HT2.out]
    refine (HS.out.fput 0 (r) (by have := HPL.out.2; omega)).mono ?_
    rintro e w3 ⟨⟨vw3, rfl⟩, L2, hL2, hS⟩
    have HL2 := hid hL2
    clear HS hL2 c0 c1 c2 c3 c4
    have HS := hid hS
    clear hS; have c0 : w3.cell? ⟨w.heap.size, 0, none⟩ = some (str nm) := cell_of_block HS.out.eb 0; have c1 : w3.cell? ⟨w.heap.size, 1, none⟩ = some (.int .i64 kd) := cell_of_block HS.out.eb 1; have c2 : w3.cell? ⟨w.heap.size, 2, none⟩ = some (.int .i64 (md : Nat)) := cell_of_block HS.out.eb 2; have c3 : w3.cell? ⟨w.heap.size, 3, none⟩ = some (str lk) := cell_of_block HS.out.eb 3; have c4 : w3.cell? ⟨w.heap.size, 4, none⟩ = some (.slice ao da.length cap) := cell_of_block HS.out.eb 4
    rw [HL1.out] at HL2
    clear HL1 HT1 HT2 q1 q2 q3 q4 q5 hp0
    go_wp2_with fail
    refine (HS.out.oct8 (md) (HMd.out)).mono ?_
    rintro e w4 ⟨⟨vw4, rfl, aw4, lw4, cw4, rfl, hcw4⟩, hS⟩
    clear HS c0 c1 c2 c3 c4
    have HS := hid hS
    clear hS; have c0 : w4.cell? ⟨w.heap.size, 0, none⟩ = some (str nm) := cell_of_block HS.out.eb 0; have c1 : w4.cell? ⟨w.heap.size, 1, none⟩ = some (.int .i64 kd) := cell_of_block HS.out.eb 1; have c2 : w4.cell? ⟨w.heap.size, 2, none⟩ = some (.int .i64 (md : Nat)) := cell_of_block HS.out.eb 2; have c3 : w4.cell? ⟨w.heap.size, 3, none⟩ = some (str lk) := cell_of_block HS.out.eb 3; have c4 : w4.cell? ⟨w.heap.size, 4, none⟩ = some (.slice ao da.length cap) := cell_of_block HS.out.eb 4
    go_wp2_with fail
    refine (HS.out.fput 100 (oct (md) 7 ++ [0]) (by rw [octN]; omega)).mono ?_
    rintro e w5 ⟨⟨vw5, rfl⟩, L3, hL3, hS⟩
    have HL3 := hid hL3
    clear HS hL3 c0 c1 c2 c3 c4
    have HS := hid hS
    clear hS; have c0 : w5.cell? ⟨w.heap.size, 0, none⟩ = some (str nm) := cell_of_block HS.out.eb 0; have c1 : w5.cell? ⟨w.heap.size, 1, none⟩ = some (.int .i64 kd) := cell_of_block HS.out.eb 1; have c2 : w5.cell? ⟨w.heap.size, 2, none⟩ = some (.int .i64 (md : Nat)) := cell_of_block HS.out.eb 2; have c3 : w5.cell? ⟨w.heap.size, 3, none⟩ = some (str lk) := cell_of_block HS.out.eb 3; have c4 : w5.cell? ⟨w.heap.size, 4, none⟩ = some (.slice ao da.length cap) := cell_of_block HS.out.eb 4
    clear hcw4
    go_wp2_with fail
    refine (HS.out.oct8 (0) (by omega)).mono ?_
    rintro e w6 ⟨⟨vw6, rfl, aw6, lw6, cw6, rfl, hcw6⟩, hS⟩
    clear HS c0 c1 c2 c3 c4
    have HS := hid hS
    clear hS; have c0 : w6.cell? ⟨w.heap.size, 0, none⟩ = some (str nm) := cell_of_block HS.out.eb 0; have c1 : w6.cell? ⟨w.heap.size, 1, none⟩ = some (.int .i64 kd) := cell_of_block HS.out.eb 1; have c2 : w6.cell? ⟨w.heap.size, 2, none⟩ = some (.int .i64 (md : Nat)) := cell_of_block HS.out.eb 2; have c3 : w6.cell? ⟨w.heap.size, 3, none⟩ = some (str lk) := cell_of_block HS.out.eb 3; have c4 : w6.cell? ⟨w.heap.size, 4, none⟩ = some (.slice ao da.length cap) := cell_of_block HS.out.eb 4
    go_wp2_with fail
    refine (HS.out.fput 108 (oct (0) 7 ++ [0]) (by rw [octN]; omega)).mono ?_
    rintro e w7 ⟨⟨vw7, rfl⟩, L4, hL4, hS⟩
    have HL4 := hid hL4
    clear HS hL4 c0 c1 c2 c3 c4
    have HS := hid hS
    clear hS; have c0 : w7.cell? ⟨w.heap.size, 0, none⟩ = some (str nm) := cell_of_block HS.out.eb 0; have c1 : w7.cell? ⟨w.heap.size, 1, none⟩ = some (.int .i64 kd) := cell_of_block HS.out.eb 1; have c2 : w7.cell? ⟨w.heap.size, 2, none⟩ = some (.int .i64 (md : Nat)) := cell_of_block HS.out.eb 2; have c3 : w7.cell? ⟨w.heap.size, 3, none⟩ = some (str lk) := cell_of_block HS.out.eb 3; have c4 : w7.cell? ⟨w.heap.size, 4, none⟩ = some (.slice ao da.length cap) := cell_of_block HS.out.eb 4
    clear hcw6
    go_wp2_with fail
    refine (HS.out.oct8 (0) (by omega)).mono ?_
    rintro e w8 ⟨⟨vw8, rfl, aw8, lw8, cw8, rfl, hcw8⟩, hS⟩
    clear HS c0 c1 c2 c3 c4
    have HS := hid hS
    clear hS; have c0 : w8.cell? ⟨w.heap.size, 0, none⟩ = some (str nm) := cell_of_block HS.out.eb 0; have c1 : w8.cell? ⟨w.heap.size, 1, none⟩ = some (.int .i64 kd) := cell_of_block HS.out.eb 1; have c2 : w8.cell? ⟨w.heap.size, 2, none⟩ = some (.int .i64 (md : Nat)) := cell_of_block HS.out.eb 2; have c3 : w8.cell? ⟨w.heap.size, 3, none⟩ = some (str lk) := cell_of_block HS.out.eb 3; have c4 : w8.cell? ⟨w.heap.size, 4, none⟩ = some (.slice ao da.length cap) := cell_of_block HS.out.eb 4
    go_wp2_with fail
    refine (HS.out.fput 116 (oct (0) 7 ++ [0]) (by rw [octN]; omega)).mono ?_
    rintro e w9 ⟨⟨vw9, rfl⟩, L5, hL5, hS⟩
    have HL5 := hid hL5
    clear HS hL5 c0 c1 c2 c3 c4
    have HS := hid hS
    clear hS; have c0 : w9.cell? ⟨w.heap.size, 0, none⟩ = some (str nm) := cell_of_block HS.out.eb 0; have c1 : w9.cell? ⟨w.heap.size, 1, none⟩ = some (.int .i64 kd) := cell_of_block HS.out.eb 1; have c2 : w9.cell? ⟨w.heap.size, 2, none⟩ = some (.int .i64 (md : Nat)) := cell_of_block HS.out.eb 2; have c3 : w9.cell? ⟨w.heap.size, 3, none⟩ = some (str lk) := cell_of_block HS.out.eb 3; have c4 : w9.cell? ⟨w.heap.size, 4, none⟩ = some (.slice ao da.length cap) := cell_of_block HS.out.eb 4
    clear hcw8
    go_wp2_with fail
    refine (HS.out.oct12 (da.length) (HDl.out)).mono ?_
    rintro e w10 ⟨⟨vw10, rfl, aw10, lw10, cw10, rfl, hcw10⟩, hS⟩
    clear HS c0 c1 c2 c3 c4
    have HS := hid hS
    clear hS; have c0 : w10.cell? ⟨w.heap.size, 0, none⟩ = some (str nm) := cell_of_block HS.out.eb 0; have c1 : w10.cell? ⟨w.heap.size, 1, none⟩ = some (.int .i64 kd) := cell_of_block HS.out.eb 1; have c2 : w10.cell? ⟨w.heap.size, 2, none⟩ = some (.int .i64 (md : Nat)) := cell_of_block HS.out.eb 2; have c3 : w10.cell? ⟨w.heap.size, 3, none⟩ = some (str lk) := cell_of_block HS.out.eb 3; have c4 : w10.cell? ⟨w.heap.size, 4, none⟩ = some (.slice ao da.length cap) := cell_of_block HS.out.eb 4
    go_wp2_with fail
    refine (HS.out.fput 124 (oct (da.length) 11 ++ [0]) (by rw [octN]; omega)).mono ?_
    rintro e w11 ⟨⟨vw11, rfl⟩, L6, hL6, hS⟩
    have HL6 := hid hL6
    clear HS hL6 c0 c1 c2 c3 c4
    have HS := hid hS
    clear hS; have c0 : w11.cell? ⟨w.heap.size, 0, none⟩ = some (str nm) := cell_of_block HS.out.eb 0; have c1 : w11.cell? ⟨w.heap.size, 1, none⟩ = some (.int .i64 kd) := cell_of_block HS.out.eb 1; have c2 : w11.cell? ⟨w.heap.size, 2, none⟩ = some (.int .i64 (md : Nat)) := cell_of_block HS.out.eb 2; have c3 : w11.cell? ⟨w.heap.size, 3, none⟩ = some (str lk) := cell_of_block HS.out.eb 3; have c4 : w11.cell? ⟨w.heap.size, 4, none⟩ = some (.slice ao da.length cap) := cell_of_block HS.out.eb 4
    clear hcw10
    go_wp2_with fail
    refine (HS.out.oct12 (0) (by omega)).mono ?_
    rintro e w12 ⟨⟨vw12, rfl, aw12, lw12, cw12, rfl, hcw12⟩, hS⟩
    clear HS c0 c1 c2 c3 c4
    have HS := hid hS
    clear hS; have c0 : w12.cell? ⟨w.heap.size, 0, none⟩ = some (str nm) := cell_of_block HS.out.eb 0; have c1 : w12.cell? ⟨w.heap.size, 1, none⟩ = some (.int .i64 kd) := cell_of_block HS.out.eb 1; have c2 : w12.cell? ⟨w.heap.size, 2, none⟩ = some (.int .i64 (md : Nat)) := cell_of_block HS.out.eb 2; have c3 : w12.cell? ⟨w.heap.size, 3, none⟩ = some (str lk) := cell_of_block HS.out.eb 3; have c4 : w12.cell? ⟨w.heap.size, 4, none⟩ = some (.slice ao da.length cap) := cell_of_block HS.out.eb 4
    go_wp2_with fail
    refine (HS.out.fput 136 (oct (0) 11 ++ [0]) (by rw [octN]; omega)).mono ?_
    rintro e w13 ⟨⟨vw13, rfl⟩, L7, hL7, hS⟩
    have HL7 := hid hL7
    clear HS hL7 c0 c1 c2 c3 c4
    have HS := hid hS
    clear hS; have c0 : w13.cell? ⟨w.heap.size, 0, none⟩ = some (str nm) := cell_of_block HS.out.eb 0; have c1 : w13.cell? ⟨w.heap.size, 1, none⟩ = some (.int .i64 kd) := cell_of_block HS.out.eb 1; have c2 : w13.cell? ⟨w.heap.size, 2, none⟩ = some (.int .i64 (md : Nat)) := cell_of_block HS.out.eb 2; have c3 : w13.cell? ⟨w.heap.size, 3, none⟩ = some (str lk) := cell_of_block HS.out.eb 3; have c4 : w13.cell? ⟨w.heap.size, 4, none⟩ = some (.slice ao da.length cap) := cell_of_block HS.out.eb 4
    clear hcw12
    have hBo := (Below.refl w13.heap.size w13).alloc (Nat.le_refl _) (.cells #[.int .u8 0, .int .u8 48, .int .u8 53, .int .u8 50, .int .u8 49] 5)
    have hbo := block_new w13 (.cells #[.int .u8 0, .int .u8 48, .int .u8 53, .int .u8 50, .int .u8 49] 5)
    have HS1 := hid (HS.out.up hBo)
    have c1 : (w13.alloc (.cells #[.int .u8 0, .int .u8 48, .int .u8 53, .int .u8 50, .int .u8 49] 5)).cell? ⟨w.heap.size, 1, none⟩ = some (.int .i64 kd) := cell_of_block HS1.out.eb 1
    have c6 := HS1.out.blk.cell 156 (by rw [HS1.out.len]; omega)
    have f6 := frozen_of_block HS1.out.blk 156
    have HS2 := hid (fun x => HS1.out.set156 x)
    clear hBo HS1
    generalize L7.getD 156 0 = z6 at *
    obtain rfl | rfl | rfl | rfl : kd = 1 ∨ kd = 2 ∨ kd = 3 ∨ kd = 4 := by omega
    · have c7 : (w13.alloc (.cells #[.int .u8 0, .int .u8 48, .int .u8 53, .int .u8 50, .int .u8 49] 5)).cell? ⟨w13.heap.size, 1, none⟩ = some (.int .u8 48) := cell_of_block hbo 1
      clear hbo
      go_upto_region 13 with fail
      generalize hW : World.setCell (World.alloc w13 _) _ _ = w14
      obtain ⟨L8, hL8⟩ : ∃ L8, L8 = wrt L7 156 [typeP 1] := ⟨_, rfl⟩
      have HL8 := hid hL8
      clear HS c0 c1 c2 c3 c4 c6 f6 c7
      have HS : Hid (HdS w w14 g #[str nm, .int .i64 1, .int .i64 (md : Nat), str lk, .slice ao da.length cap] L8) := by unfold Hid; rw [hL8, ← hW]; exact HS2.out 48
      clear hW hL8 HS2
      have c0 : w14.cell? ⟨w.heap.size, 0, none⟩ = some (str nm) := cell_of_block HS.out.eb 0; have c1 : w14.cell? ⟨w.heap.size, 1, none⟩ = some (.int .i64 1) := cell_of_block HS.out.eb 1; have c2 : w14.cell? ⟨w.heap.size, 2, none⟩ = some (.int .i64 (md : Nat)) := cell_of_block HS.out.eb 2; have c3 : w14.cell? ⟨w.heap.size, 3, none⟩ = some (str lk) := cell_of_block HS.out.eb 3; have c4 : w14.cell? ⟨w.heap.size, 4, none⟩ = some (.slice ao da.length cap) := cell_of_block HS.out.eb 4
      go_wp2_with fail
      refine (HS.out.fput 157 (lk) (by have := HLL.out; omega)).mono ?_
      rintro e w15 ⟨⟨vw15, rfl⟩, L9, hL9, hS⟩
      have HL9 := hid hL9
      clear HS hL9 c0 c1 c2 c3 c4
      have HS := hid hS
      clear hS; have c0 : w15.cell? ⟨w.heap.size, 0, none⟩ = some (str nm) := cell_of_block HS.out.eb 0; have c1 : w15.cell? ⟨w.heap.size, 1, none⟩ = some (.int .i64 1) := cell_of_block HS.out.eb 1; have c2 : w15.cell? ⟨w.heap.size, 2, none⟩ = some (.int .i64 (md : Nat)) := cell_of_block HS.out.eb 2; have c3 : w15.cell? ⟨w.heap.size, 3, none⟩ = some (str lk) := cell_of_block HS.out.eb 3; have c4 : w15.cell? ⟨w.heap.size, 4, none⟩ = some (.slice ao da.length cap) := cell_of_block HS.out.eb 4
      go_wp2_with fail
      refine (HS.out.fput 257 (signB) (by show 257 + 8 ≤ 512; omega)).mono ?_
      rintro e w16 ⟨⟨vw16, rfl⟩, L10, hL10, hS⟩
      have HL10 := hid hL10
      clear HS hL10 c0 c1 c2 c3 c4
      have HS := hid hS
      clear hS; have c0 : w16.cell? ⟨w.heap.size, 0, none⟩ = some (str nm) := cell_of_block HS.out.eb 0; have c1 : w16.cell? ⟨w.heap.size, 1, none⟩ = some (.int .i64 1) := cell_of_block HS.out.eb 1; have c2 : w16.cell? ⟨w.heap.size, 2, none⟩ = some (.int .i64 (md : Nat)) := cell_of_block HS.out.eb 2; have c3 : w16.cell? ⟨w.heap.size, 3, none⟩ = some (str lk) := cell_of_block HS.out.eb 3; have c4 : w16.cell? ⟨w.heap.size, 4, none⟩ = some (.slice ao da.length cap) := cell_of_block HS.out.eb 4
      go_wp2_with fail
      refine (HS.out.oct8 (0) (by omega)).mono ?_
      rintro e w17 ⟨⟨vw17, rfl, aw17, lw17, cw17, rfl, hcw17⟩, hS⟩
      clear HS c0 c1 c2 c3 c4
      have HS := hid hS
      clear hS; have c0 : w17.cell? ⟨w.heap.size, 0, none⟩ = some (str nm) := cell_of_block HS.out.eb 0; have c1 : w17.cell? ⟨w.heap.size, 1, none⟩ = some (.int .i64 1) := cell_of_block HS.out.eb 1; have c2 : w17.cell? ⟨w.heap.size, 2, none⟩ = some (.int .i64 (md : Nat)) := cell_of_block HS.out.eb 2; have c3 : w17.cell? ⟨w.heap.size, 3, none⟩ = some (str lk) := cell_of_block HS.out.eb 3; have c4 : w17.cell? ⟨w.heap.size, 4, none⟩ = some (.slice ao da.length cap) := cell_of_block HS.out.eb 4
      go_wp2_with fail
      refine (HS.out.fput 329 (oct (0) 7 ++ [0]) (by rw [octN]; omega)).mono ?_
      rintro e w18 ⟨⟨vw18, rfl⟩, L11, hL11, hS⟩
      have HL11 := hid hL11
      clear HS hL11 c0 c1 c2 c3 c4
      have HS := hid hS
      clear hS; have c0 : w18.cell? ⟨w.heap.size, 0, none⟩ = some (str nm) := cell_of_block HS.out.eb 0; have c1 : w18.cell? ⟨w.heap.size, 1, none⟩ = some (.int .i64 1) := cell_of_block HS.out.eb 1; have c2 : w18.cell? ⟨w.heap.size, 2, none⟩ = some (.int .i64 (md : Nat)) := cell_of_block HS.out.eb 2; have c3 : w18.cell? ⟨w.heap.size, 3, none⟩ = some (str lk) := cell_of_block HS.out.eb 3; have c4 : w18.cell? ⟨w.heap.size, 4, none⟩ = some (.slice ao da.length cap) := cell_of_block HS.out.eb 4
      clear hcw17
      go_wp2_with fail
      refine (HS.out.oct8 (0) (by omega)).mono ?_
      rintro e w19 ⟨⟨vw19, rfl, aw19, lw19, cw19, rfl, hcw19⟩, hS⟩
      clear HS c0 c1 c2 c3 c4
      have HS := hid hS
      clear hS; have c0 : w19.cell? ⟨w.heap.size, 0, none⟩ = some (str nm) := cell_of_block HS.out.eb 0; have c1 : w19.cell? ⟨w.heap.size, 1, none⟩ = some (.int .i64 1) := cell_of_block HS.out.eb 1; have c2 : w19.cell? ⟨w.heap.size, 2, none⟩ = some (.int .i64 (md : Nat)) := cell_of_block HS.out.eb 2; have c3 : w19.cell? ⟨w.heap.size, 3, none⟩ = some (str lk) := cell_of_block HS.out.eb 3; have c4 : w19.cell? ⟨w.heap.size, 4, none⟩ = some (.slice ao da.length cap) := cell_of_block HS.out.eb 4
      go_wp2_with fail
      refine (HS.out.fput 337 (oct (0) 7 ++ [0]) (by rw [octN]; omega)).mono ?_
      rintro e w20 ⟨⟨vw20, rfl⟩, L12, hL12, hS⟩
      have HL12 := hid hL12
      clear HS hL12 c0 c1 c2 c3 c4
      have HS := hid hS
      clear hS; have c0 : w20.cell? ⟨w.heap.size, 0, none⟩ = some (str nm) := cell_of_block HS.out.eb 0; have c1 : w20.cell? ⟨w.heap.size, 1, none⟩ = some (.int .i64 1) := cell_of_block HS.out.eb 1; have c2 : w20.cell? ⟨w.heap.size, 2, none⟩ = some (.int .i64 (md : Nat)) := cell_of_block HS.out.eb 2; have c3 : w20.cell? ⟨w.heap.size, 3, none⟩ = some (str lk) := cell_of_block HS.out.eb 3; have c4 : w20.cell? ⟨w.heap.size, 4, none⟩ = some (.slice ao da.length cap) := cell_of_block HS.out.eb 4
      clear hcw19
      have HSm := hid (fSum_any L12 _ w20 HS.out.rd)
      rw [if_pos HS.out.len] at HSm
      have HF := hid (HEnd.out L12 (by rw [HL12.out, HL11.out, HL10.out, HL9.out, HL8.out, HL7.out, HL6.out, HL5.out, HL4.out, HL3.out, HL2.out]; rfl))
      have hsb := sumH_bounds HS.out.len
      obtain ⟨sm, hsm⟩ : ∃ sm : Nat, sumH L12 = (sm : Int) := ⟨(sumH L12).toNat, by omega⟩
      rw [hsm] at HSm HF
      rw [Int.toNat_natCast] at HF
      have HSb : Hid (sm ≤ 8589934592) := by unfold Hid; omega
      clear hsb hsm
      go_wp2_with fail
      refine HSm.out.mono ?_
      rintro e w21 ⟨rfl, rfl⟩
      go_wp2_with fail
      refine (HS.out.oct8 (sm) (HSb.out)).mono ?_
      rintro e w22 ⟨⟨vw22, rfl, aw22, lw22, cw22, rfl, hcw22⟩, hS⟩
      clear HS c0 c1 c2 c3 c4
      have HS := hid hS
      clear hS; have c0 : w22.cell? ⟨w.heap.size, 0, none⟩ = some (str nm) := cell_of_block HS.out.eb 0; have c1 : w22.cell? ⟨w.heap.size, 1, none⟩ = some (.int .i64 1) := cell_of_block HS.out.eb 1; have c2 : w22.cell? ⟨w.heap.size, 2, none⟩ = some (.int .i64 (md : Nat)) := cell_of_block HS.out.eb 2; have c3 : w22.cell? ⟨w.heap.size, 3, none⟩ = some (str lk) := cell_of_block HS.out.eb 3; have c4 : w22.cell? ⟨w.heap.size, 4, none⟩ = some (.slice ao da.length cap) := cell_of_block HS.out.eb 4
      go_wp2_with fail
      refine (HS.out.fput 148 (oct (sm) 7 ++ [0]) (by rw [octN]; omega)).mono ?_
      rintro e w23 ⟨⟨vw23, rfl⟩, L13, hL13, hS⟩
      have HL13 := hid hL13
      clear HS hL13 c0 c1 c2 c3 c4
      have HS := hid hS
      clear hS; have c0 : w23.cell? ⟨w.heap.size, 0, none⟩ = some (str nm) := cell_of_block HS.out.eb 0; have c1 : w23.cell? ⟨w.heap.size, 1, none⟩ = some (.int .i64 1) := cell_of_block HS.out.eb 1; have c2 : w23.cell? ⟨w.heap.size, 2, none⟩ = some (.int .i64 (md : Nat)) := cell_of_block HS.out.eb 2; have c3 : w23.cell? ⟨w.heap.size, 3, none⟩ = some (str lk) := cell_of_block HS.out.eb 3; have c4 : w23.cell? ⟨w.heap.size, 4, none⟩ = some (.slice ao da.length cap) := cell_of_block HS.out.eb 4
      clear hcw22
      have HFin : Hid (Below w.heap.size w w23 ∧ blkB w23 g ((blkE ⟨nm, 1, md, lk, da⟩).take 512)) := ⟨HS.out.below, by rw [← HF.out, ← HL13.out]; exact HS.out.blk⟩
      clear HS HF HL13
      go_wp2
      go_ret
      exact ⟨g, rfl, Nat.le_of_lt HG.out, HFin.out.1, HFin.out.2⟩
    · have c7 : (w13.alloc (.cells #[.int .u8 0, .int .u8 48, .int .u8 53, .int .u8 50, .int .u8 49] 5)).cell? ⟨w13.heap.size, 2, none⟩ = some (.int .u8 53) := cell_of_block hbo 2
      clear hbo
      go_upto_region 13 with fail
      generalize hW : World.setCell (World.alloc w13 _) _ _ = w14
      obtain ⟨L8, hL8⟩ : ∃ L8, L8 = wrt L7 156 [typeP 2] := ⟨_, rfl⟩
      have HL8 := hid hL8
      clear HS c0 c1 c2 c3 c4 c6 f6 c7
      have HS : Hid (HdS w w14 g #[str nm, .int .i64 2, .int .i64 (md : Nat), str lk, .slice ao da.length cap] L8) := by unfold Hid; rw [hL8, ← hW]; exact HS2.out 53
      clear hW hL8 HS2
      have c0 : w14.cell? ⟨w.heap.size, 0, none⟩ = some (str nm) := cell_of_block HS.out.eb 0; have c1 : w14.cell? ⟨w.heap.size, 1, none⟩ = some (.int .i64 2) := cell_of_block HS.out.eb 1; have c2 : w14.cell? ⟨w.heap.size, 2, none⟩ = some (.int .i64 (md : Nat)) := cell_of_block HS.out.eb 2; have c3 : w14.cell? ⟨w.heap.size, 3, none⟩ = some (str lk) := cell_of_block HS.out.eb 3; have c4 : w14.cell? ⟨w.heap.size, 4, none⟩ = some (.slice ao da.length cap) := cell_of_block HS.out.eb 4
      go_wp2_with fail
      refine (HS.out.fput 157 (lk) (by have := HLL.out; omega)).mono ?_
      rintro e w15 ⟨⟨vw15, rfl⟩, L9, hL9, hS⟩
      have HL9 := hid hL9
      clear HS hL9 c0 c1 c2 c3 c4
      have HS := hid hS
      clear hS; have c0 : w15.cell? ⟨w.heap.size, 0, none⟩ = some (str nm) := cell_of_block HS.out.eb 0; have c1 : w15.cell? ⟨w.heap.size, 1, none⟩ = some (.int .i64 2) := cell_of_block HS.out.eb 1; have c2 : w15.cell? ⟨w.heap.size, 2, none⟩ = some (.int .i64 (md : Nat)) := cell_of_block HS.out.eb 2; have c3 : w15.cell? ⟨w.heap.size, 3, none⟩ = some (str lk) := cell_of_block HS.out.eb 3; have c4 : w15.cell? ⟨w.heap.size, 4, none⟩ = some (.slice ao da.length cap) := cell_of_block HS.out.eb 4
      go_wp2_with fail
      refine (HS.out.fput 257 (signB) (by show 257 + 8 ≤ 512; omega)).mono ?_
      rintro e w16 ⟨⟨vw16, rfl⟩, L10, hL10, hS⟩
      have HL10 := hid hL10
      clear HS hL10 c0 c1 c2 c3 c4
      have HS := hid hS
      clear hS; have c0 : w16.cell? ⟨w.heap.size, 0, none⟩ = some (str nm) := cell_of_block HS.out.eb 0; have c1 : w16.cell? ⟨w.heap.size, 1, none⟩ = some (.int .i64 2) := cell_of_block HS.out.eb 1; have c2 : w16.cell? ⟨w.heap.size, 2, none⟩ = some (.int .i64 (md : Nat)) := cell_of_block HS.out.eb 2; have c3 : w16.cell? ⟨w.heap.size, 3, none⟩ = some (str lk) := cell_of_block HS.out.eb 3; have c4 : w16.cell? ⟨w.heap.size, 4, none⟩ = some (.slice ao da.length cap) := cell_of_block HS.out.eb 4
      go_wp2_with fail
      refine (HS.out.oct8 (0) (by omega)).mono ?_
      rintro e w17 ⟨⟨vw17, rfl, aw17, lw17, cw17, rfl, hcw17⟩, hS⟩
      clear HS c0 c1 c2 c3 c4
      have HS := hid hS
      clear hS; have c0 : w17.cell? ⟨w.heap.size, 0, none⟩ = some (str nm) := cell_of_block HS.out.eb 0; have c1 : w17.cell? ⟨w.heap.size, 1, none⟩ = some (.int .i64 2) := cell_of_block HS.out.eb 1; have c2 : w17.cell? ⟨w.heap.size, 2, none⟩ = some (.int .i64 (md : Nat)) := cell_of_block HS.out.eb 2; have c3 : w17.cell? ⟨w.heap.size, 3, none⟩ = some (str lk) := cell_of_block HS.out.eb 3; have c4 : w17.cell? ⟨w.heap.size, 4, none⟩ = some (.slice ao da.length cap) := cell_of_block HS.out.eb 4
      go_wp2_with fail
      refine (HS.out.fput 329 (oct (0) 7 ++ [0]) (by rw [octN]; omega)).mono ?_
      rintro e w18 ⟨⟨vw18, rfl⟩, L11, hL11, hS⟩
      have HL11 := hid hL11
      clear HS hL11 c0 c1 c2 c3 c4
      have HS := hid hS
      clear hS; have c0 : w18.cell? ⟨w.heap.size, 0, none⟩ = some (str nm) := cell_of_block HS.out.eb 0; have c1 : w18.cell? ⟨w.heap.size, 1, none⟩ = some (.int .i64 2) := cell_of_block HS.out.eb 1; have c2 : w18.cell? ⟨w.heap.size, 2, none⟩ = some (.int .i64 (md : Nat)) := cell_of_block HS.out.eb 2; have c3 : w18.cell? ⟨w.heap.size, 3, none⟩ = some (str lk) := cell_of_block HS.out.eb 3; have c4 : w18.cell? ⟨w.heap.size, 4, none⟩ = some (.slice ao da.length cap) := cell_of_block HS.out.eb 4
      clear hcw17
      go_wp2_with fail
      refine (HS.out.oct8 (0) (by omega)).mono ?_
      rintro e w19 ⟨⟨vw19, rfl, aw19, lw19, cw19, rfl, hcw19⟩, hS⟩
      clear HS c0 c1 c2 c3 c4
      have HS := hid hS
      clear hS; have c0 : w19.cell? ⟨w.heap.size, 0, none⟩ = some (str nm) := cell_of_block HS.out.eb 0; have c1 : w19.cell? ⟨w.heap.size, 1, none⟩ = some (.int .i64 2) := cell_of_block HS.out.eb 1; have c2 : w19.cell? ⟨w.heap.size, 2, none⟩ = some (.int .i64 (md : Nat)) := cell_of_block HS.out.eb 2; have c3 : w19.cell? ⟨w.heap.size, 3, none⟩ = some (str lk) := cell_of_block HS.out.eb 3; have c4 : w19.cell? ⟨w.heap.size, 4, none⟩ = some (.slice ao da.length cap) := cell_of_block HS.out.eb 4
      go_wp2_with fail
      refine (HS.out.fput 337 (oct (0) 7 ++ [0]) (by rw [octN]; omega)).mono ?_
      rintro e w20 ⟨⟨vw20, rfl⟩, L12, hL12, hS⟩
      have HL12 := hid hL12
      clear HS hL12 c0 c1 c2 c3 c4
      have HS := hid hS
      clear hS; have c0 : w20.cell? ⟨w.heap.size, 0, none⟩ = some (str nm) := cell_of_block HS.out.eb 0; have c1 : w20.cell? ⟨w.heap.size, 1, none⟩ = some (.int .i64 2) := cell_of_block HS.out.eb 1; have c2 : w20.cell? ⟨w.heap.size, 2, none⟩ = some (.int .i64 (md : Nat)) := cell_of_block HS.out.eb 2; have c3 : w20.cell? ⟨w.heap.size, 3, none⟩ = some (str lk) := cell_of_block HS.out.eb 3; have c4 : w20.cell? ⟨w.heap.size, 4, none⟩ = some (.slice ao da.length cap) := cell_of_block HS.out.eb 4
      clear hcw19
      have HSm := hid (fSum_any L12 _ w20 HS.out.rd)
      rw [if_pos HS.out.len] at HSm
      have HF := hid (HEnd.out L12 (by rw [HL12.out, HL11.out, HL10.out, HL9.out, HL8.out, HL7.out, HL6.out, HL5.out, HL4.out, HL3.out, HL2.out]; rfl))
      have hsb := sumH_bounds HS.out.len
      obtain ⟨sm, hsm⟩ : ∃ sm : Nat, sumH L12 = (sm : Int) := ⟨(sumH L12).toNat, by omega⟩
      rw [hsm] at HSm HF
      rw [Int.toNat_natCast] at HF
      have HSb : Hid (sm ≤ 8589934592) := by unfold Hid; omega
      clear hsb hsm
      go_wp2_with fail
      refine HSm.out.mono ?_
      rintro e w21 ⟨rfl, rfl⟩
      go_wp2_with fail
      refine (HS.out.oct8 (sm) (HSb.out)).mono ?_
      rintro e w22 ⟨⟨vw22, rfl, aw22, lw22, cw22, rfl, hcw22⟩, hS⟩
      clear HS c0 c1 c2 c3 c4
      have HS := hid hS
      clear hS; have c0 : w22.cell? ⟨w.heap.size, 0, none⟩ = some (str nm) := cell_of_block HS.out.eb 0; have c1 : w22.cell? ⟨w.heap.size, 1, none⟩ = some (.int .i64 2) := cell_of_block HS.out.eb 1; have c2 : w22.cell? ⟨w.heap.size, 2, none⟩ = some (.int .i64 (md : Nat)) := cell_of_block HS.out.eb 2; have c3 : w22.cell? ⟨w.heap.size, 3, none⟩ = some (str lk) := cell_of_block HS.out.eb 3; have c4 : w22.cell? ⟨w.heap.size, 4, none⟩ = some (.slice ao da.length cap) := cell_of_block HS.out.eb 4
      go_wp2_with fail
      refine (HS.out.fput 148 (oct (sm) 7 ++ [0]) (by rw [octN]; omega)).mono ?_
      rintro e w23 ⟨⟨vw23, rfl⟩, L13, hL13, hS⟩
      have HL13 := hid hL13
      clear HS hL13 c0 c1 c2 c3 c4
      have HS := hid hS
      clear hS; have c0 : w23.cell? ⟨w.heap.size, 0, none⟩ = some (str nm) := cell_of_block HS.out.eb 0; have c1 : w23.cell? ⟨w.heap.size, 1, none⟩ = some (.int .i64 2) := cell_of_block HS.out.eb 1; have c2 : w23.cell? ⟨w.heap.size, 2, none⟩ = some (.int .i64 (md : Nat)) := cell_of_block HS.out.eb 2; have c3 : w23.cell? ⟨w.heap.size, 3, none⟩ = some (str lk) := cell_of_block HS.out.eb 3; have c4 : w23.cell? ⟨w.heap.size, 4, none⟩ = some (.slice ao da.length cap) := cell_of_block HS.out.eb 4
      clear hcw22
      have HFin : Hid (Below w.heap.size w w23 ∧ blkB w23 g ((blkE ⟨nm, 2, md, lk, da⟩).take 512)) := ⟨HS.out.below, by rw [← HF.out, ← HL13.out]; exact HS.out.blk⟩
      clear HS HF HL13
      go_wp2
      go_ret
      exact ⟨g, rfl, Nat.le_of_lt HG.out, HFin.out.1, HFin.out.2⟩
    · have c7 : (w13.alloc (.cells #[.int .u8 0, .int .u8 48, .int .u8 53, .int .u8 50, .int .u8 49] 5)).cell? ⟨w13.heap.size, 3, none⟩ = some (.int .u8 50) := cell_of_block hbo 3
      clear hbo
      go_upto_region 13 with fail
      generalize hW : World.setCell (World.alloc w13 _) _ _ = w14
      obtain ⟨L8, hL8⟩ : ∃ L8, L8 = wrt L7 156 [typeP 3] := ⟨_, rfl⟩
      have HL8 := hid hL8
      clear HS c0 c1 c2 c3 c4 c6 f6 c7
      have HS : Hid (HdS w w14 g #[str nm, .int .i64 3, .int .i64 (md : Nat), str lk, .slice ao da.length cap] L8) := by unfold Hid; rw [hL8, ← hW]; exact HS2.out 50
      clear hW hL8 HS2
      have c0 : w14.cell? ⟨w.heap.size, 0, none⟩ = some (str nm) := cell_of_block HS.out.eb 0; have c1 : w14.cell? ⟨w.heap.size, 1, none⟩ = some (.int .i64 3) := cell_of_block HS.out.eb 1; have c2 : w14.cell? ⟨w.heap.size, 2, none⟩ = some (.int .i64 (md : Nat)) := cell_of_block HS.out.eb 2; have c3 : w14.cell? ⟨w.heap.size, 3, none⟩ = some (str lk) := cell_of_block HS.out.eb 3; have c4 : w14.cell? ⟨w.heap.size, 4, none⟩ = some (.slice ao da.length cap) := cell_of_block HS.out.eb 4
      go_wp2_with fail
      refine (HS.out.fput 157 (lk) (by have := HLL.out; omega)).mono ?_
      rintro e w15 ⟨⟨vw15, rfl⟩, L9, hL9, hS⟩
      have HL9 := hid hL9
      clear HS hL9 c0 c1 c2 c3 c4
      have HS := hid hS
      clear hS; have c0 : w15.cell? ⟨w.heap.size, 0, none⟩ = some (str nm) := cell_of_block HS.out.eb 0; have c1 : w15.cell? ⟨w.heap.size, 1, none⟩ = some (.int .i64 3) := cell_of_block HS.out.eb 1; have c2 : w15.cell? ⟨w.heap.size, 2, none⟩ = some (.int .i64 (md : Nat)) := cell_of_block HS.out.eb 2; have c3 : w15.cell? ⟨w.heap.size, 3, none⟩ = some (str lk) := cell_of_block HS.out.eb 3; have c4 : w15.cell? ⟨w.heap.size, 4, none⟩ = some (.slice ao da.length cap) := cell_of_block HS.out.eb 4
      go_wp2_with fail
      refine (HS.out.fput 257 (signB) (by show 257 + 8 ≤ 512; omega)).mono ?_
      rintro e w16 ⟨⟨vw16, rfl⟩, L10, hL10, hS⟩
      have HL10 := hid hL10
      clear HS hL10 c0 c1 c2 c3 c4
      have HS := hid hS
      clear hS; have c0 : w16.cell? ⟨w.heap.size, 0, none⟩ = some (str nm) := cell_of_block HS.out.eb 0; have c1 : w16.cell? ⟨w.heap.size, 1, none⟩ = some (.int .i64 3) := cell_of_block HS.out.eb 1; have c2 : w16.cell? ⟨w.heap.size, 2, none⟩ = some (.int .i64 (md : Nat)) := cell_of_block HS.out.eb 2; have c3 : w16.cell? ⟨w.heap.size, 3, none⟩ = some (str lk) := cell_of_block HS.out.eb 3; have c4 : w16.cell? ⟨w.heap.size, 4, none⟩ = some (.slice ao da.length cap) := cell_of_block HS.out.eb 4
      go_wp2_with fail
      refine (HS.out.oct8 (0) (by omega)).mono ?_
      rintro e w17 ⟨⟨vw17, rfl, aw17, lw17, cw17, rfl, hcw17⟩, hS⟩
      clear HS c0 c1 c2 c3 c4
      have HS := hid hS
      clear hS; have c0 : w17.cell? ⟨w.heap.size, 0, none⟩ = some (str nm) := cell_of_block HS.out.eb 0; have c1 : w17.cell? ⟨w.heap.size, 1, none⟩ = some (.int .i64 3) := cell_of_block HS.out.eb 1; have c2 : w17.cell? ⟨w.heap.size, 2, none⟩ = some (.int .i64 (md : Nat)) := cell_of_block HS.out.eb 2; have c3 : w17.cell? ⟨w.heap.size, 3, none⟩ = some (str lk) := cell_of_block HS.out.eb 3; have c4 : w17.cell? ⟨w.heap.size, 4, none⟩ = some (.slice ao da.length cap) := cell_of_block HS.out.eb 4
      go_wp2_with fail
      refine (HS.out.fput 329 (oct (0) 7 ++ [0]) (by rw [octN]; omega)).mono ?_
      rintro e w18 ⟨⟨vw18, rfl⟩, L11, hL11, hS⟩
      have HL11 := hid hL11
      clear HS hL11 c0 c1 c2 c3 c4
      have HS := hid hS
      clear hS; have c0 : w18.cell? ⟨w.heap.size, 0, none⟩ = some (str nm) := cell_of_block HS.out.eb 0; have c1 : w18.cell? ⟨w.heap.size, 1, none⟩ = some (.int .i64 3) := cell_of_block HS.out.eb 1; have c2 : w18.cell? ⟨w.heap.size, 2, none⟩ = some (.int .i64 (md : Nat)) := cell_of_block HS.out.eb 2; have c3 : w18.cell? ⟨w.heap.size, 3, none⟩ = some (str lk) := cell_of_block HS.out.eb 3; have c4 : w18.cell? ⟨w.heap.size, 4, none⟩ = some (.slice ao da.length cap) := cell_of_block HS.out.eb 4
      clear hcw17
      go_wp2_with fail
      refine (HS.out.oct8 (0) (by omega)).mono ?_
      rintro e w19 ⟨⟨vw19, rfl, aw19, lw19, cw19, rfl, hcw19⟩, hS⟩
      clear HS c0 c1 c2 c3 c4
      have HS := hid hS
      clear hS; have c0 : w19.cell? ⟨w.heap.size, 0, none⟩ = some (str nm) := cell_of_block HS.out.eb 0; have c1 : w19.cell? ⟨w.heap.size, 1, none⟩ = some (.int .i64 3) := cell_of_block HS.out.eb 1; have c2 : w19.cell? ⟨w.heap.size, 2, none⟩ = some (.int .i64 (md : Nat)) := cell_of_block HS.out.eb 2; have c3 : w19.cell? ⟨w.heap.size, 3, none⟩ = some (str lk) := cell_of_block HS.out.eb 3; have c4 : w19.cell? ⟨w.heap.size, 4, none⟩ = some (.slice ao da.length cap) := cell_of_block HS.out.eb 4
      go_wp2_with fail
      refine (HS.out.fput 337 (oct (0) 7 ++ [0]) (by rw [octN]; omega)).mono ?_
      rintro e w20 ⟨⟨vw20, rfl⟩, L12, hL12, hS⟩
      have HL12 := hid hL12
      clear HS hL12 c0 c1 c2 c3 c4
      have HS := hid hS
      clear hS; have c0 : w20.cell? ⟨w.heap.size, 0, none⟩ = some (str nm) := cell_of_block HS.out.eb 0; have c1 : w20.cell? ⟨w.heap.size, 1, none⟩ = some (.int .i64 3) := cell_of_block HS.out.eb 1; have c2 : w20.cell? ⟨w.heap.size, 2, none⟩ = some (.int .i64 (md : Nat)) := cell_of_block HS.out.eb 2; have c3 : w20.cell? ⟨w.heap.size, 3, none⟩ = some (str lk) := cell_of_block HS.out.eb 3; have c4 : w20.cell? ⟨w.heap.size, 4, none⟩ = some (.slice ao da.length cap) := cell_of_block HS.out.eb 4
      clear hcw19
      have HSm := hid (fSum_any L12 _ w20 HS.out.rd)
      rw [if_pos HS.out.len] at HSm
      have HF := hid (HEnd.out L12 (by rw [HL12.out, HL11.out, HL10.out, HL9.out, HL8.out, HL7.out, HL6.out, HL5.out, HL4.out, HL3.out, HL2.out]; rfl))
      have hsb := sumH_bounds HS.out.len
      obtain ⟨sm, hsm⟩ : ∃ sm : Nat, sumH L12 = (sm : Int) := ⟨(sumH L12).toNat, by omega⟩
      rw [hsm] at HSm HF
      rw [Int.toNat_natCast] at HF
      have HSb : Hid (sm ≤ 8589934592) := by unfold Hid; omega
      clear hsb hsm
      go_wp2_with fail
      refine HSm.out.mono ?_
      rintro e w21 ⟨rfl, rfl⟩
      go_wp2_with fail
      refine (HS.out.oct8 (sm) (HSb.out)).mono ?_
      rintro e w22 ⟨⟨vw22, rfl, aw22, lw22, cw22, rfl, hcw22⟩, hS⟩
      clear HS c0 c1 c2 c3 c4
      have HS := hid hS
      clear hS; have c0 : w22.cell? ⟨w.heap.size, 0, none⟩ = some (str nm) := cell_of_block HS.out.eb 0; have c1 : w22.cell? ⟨w.heap.size, 1, none⟩ = some (.int .i64 3) := cell_of_block HS.out.eb 1; have c2 : w22.cell? ⟨w.heap.size, 2, none⟩ = some (.int .i64 (md : Nat)) := cell_of_block HS.out.eb 2; have c3 : w22.cell? ⟨w.heap.size, 3, none⟩ = some (str lk) := cell_of_block HS.out.eb 3; have c4 : w22.cell? ⟨w.heap.size, 4, none⟩ = some (.slice ao da.length cap) := cell_of_block HS.out.eb 4
      go_wp2_with fail
      refine (HS.out.fput 148 (oct (sm) 7 ++ [0]) (by rw [octN]; omega)).mono ?_
      rintro e w23 ⟨⟨vw23, rfl⟩, L13, hL13, hS⟩
      have HL13 := hid hL13
      clear HS hL13 c0 c1 c2 c3 c4
      have HS := hid hS
      clear hS; have c0 : w23.cell? ⟨w.heap.size, 0, none⟩ = some (str nm) := cell_of_block HS.out.eb 0; have c1 : w23.cell? ⟨w.heap.size, 1, none⟩ = some (.int .i64 3) := cell_of_block HS.out.eb 1; have c2 : w23.cell? ⟨w.heap.size, 2, none⟩ = some (.int .i64 (md : Nat)) := cell_of_block HS.out.eb 2; have c3 : w23.cell? ⟨w.heap.size, 3, none⟩ = some (str lk) := cell_of_block HS.out.eb 3; have c4 : w23.cell? ⟨w.heap.size, 4, none⟩ = some (.slice ao da.length cap) := cell_of_block HS.out.eb 4
      clear hcw22
      have HFin : Hid (Below w.heap.size w w23 ∧ blkB w23 g ((blkE ⟨nm, 3, md, lk, da⟩).take 512)) := ⟨HS.out.below, by rw [← HF.out, ← HL13.out]; exact HS.out.blk⟩
      clear HS HF HL13
      go_wp2
      go_ret
      exact ⟨g, rfl, Nat.le_of_lt HG.out, HFin.out.1, HFin.out.2⟩
    · have c7 : (w13.alloc (.cells #[.int .u8 0, .int .u8 48, .int .u8 53, .int .u8 50, .int .u8 49] 5)).cell? ⟨w13.heap.size, 4, none⟩ = some (.int .u8 49) := cell_of_block hbo 4
      clear hbo
      go_upto_region 13 with fail
      generalize hW : World.setCell (World.alloc w13 _) _ _ = w14
      obtain ⟨L8, hL8⟩ : ∃ L8, L8 = wrt L7 156 [typeP 4] := ⟨_, rfl⟩
      have HL8 := hid hL8
      clear HS c0 c1 c2 c3 c4 c6 f6 c7
      have HS : Hid (HdS w w14 g #[str nm, .int .i64 4, .int .i64 (md : Nat), str lk, .slice ao da.length cap] L8) := by unfold Hid; rw [hL8, ← hW]; exact HS2.out 49
      clear hW hL8 HS2
      have c0 : w14.cell? ⟨w.heap.size, 0, none⟩ = some (str nm) := cell_of_block HS.out.eb 0; have c1 : w14.cell? ⟨w.heap.size, 1, none⟩ = some (.int .i64 4) := cell_of_block HS.out.eb 1; have c2 : w14.cell? ⟨w.heap.size, 2, none⟩ = some (.int .i64 (md : Nat)) := cell_of_block HS.out.eb 2; have c3 : w14.cell? ⟨w.heap.size, 3, none⟩ = some (str lk) := cell_of_block HS.out.eb 3; have c4 : w14.cell? ⟨w.heap.size, 4, none⟩ = some (.slice ao da.length cap) := cell_of_block HS.out.eb 4
      go_wp2_with fail
      refine (HS.out.fput 157 (lk) (by have := HLL.out; omega)).mono ?_
      rintro e w15 ⟨⟨vw15, rfl⟩, L9, hL9, hS⟩
      have HL9 := hid hL9
      clear HS hL9 c0 c1 c2 c3 c4
      have HS := hid hS
      clear hS; have c0 : w15.cell? ⟨w.heap.size, 0, none⟩ = some (str nm) := cell_of_block HS.out.eb 0; have c1 : w15.cell? ⟨w.heap.size, 1, none⟩ = some (.int .i64 4) := cell_of_block HS.out.eb 1; have c2 : w15.cell? ⟨w.heap.size, 2, none⟩ = some (.int .i64 (md : Nat)) := cell_of_block HS.out.eb 2; have c3 : w15.cell? ⟨w.heap.size, 3, none⟩ = some (str lk) := cell_of_block HS.out.eb 3; have c4 : w15.cell? ⟨w.heap.size, 4, none⟩ = some (.slice ao da.length cap) := cell_of_block HS.out.eb 4
      go_wp2_with fail
      refine (HS.out.fput 257 (signB) (by show 257 + 8 ≤ 512; omega)).mono ?_
      rintro e w16 ⟨⟨vw16, rfl⟩, L10, hL10, hS⟩
      have HL10 := hid hL10
      clear HS hL10 c0 c1 c2 c3 c4
      have HS := hid hS
      clear hS; have c0 : w16.cell? ⟨w.heap.size, 0, none⟩ = some (str nm) := cell_of_block HS.out.eb 0; have c1 : w16.cell? ⟨w.heap.size, 1, none⟩ = some (.int .i64 4) := cell_of_block HS.out.eb 1; have c2 : w16.cell? ⟨w.heap.size, 2, none⟩ = some (.int .i64 (md : Nat)) := cell_of_block HS.out.eb 2; have c3 : w16.cell? ⟨w.heap.size, 3, none⟩ = some (str lk) := cell_of_block HS.out.eb 3; have c4 : w16.cell? ⟨w.heap.size, 4, none⟩ = some (.slice ao da.length cap) := cell_of_block HS.out.eb 4
      go_wp2_with fail
      refine (HS.out.oct8 (0) (by omega)).mono ?_
      rintro e w17 ⟨⟨vw17, rfl, aw17, lw17, cw17, rfl, hcw17⟩, hS⟩
      clear HS c0 c1 c2 c3 c4
      have HS := hid hS
      clear hS; have c0 : w17.cell? ⟨w.heap.size, 0, none⟩ = some (str nm) := cell_of_block HS.out.eb 0; have c1 : w17.cell? ⟨w.heap.size, 1, none⟩ = some (.int .i64 4) := cell_of_block HS.out.eb 1; have c2 : w17.cell? ⟨w.heap.size, 2, none⟩ = some (.int .i64 (md : Nat)) := cell_of_block HS.out.eb 2; have c3 : w17.cell? ⟨w.heap.size, 3, none⟩ = some (str lk) := cell_of_block HS.out.eb 3; have c4 : w17.cell? ⟨w.heap.size, 4, none⟩ = some (.slice ao da.length cap) := cell_of_block HS.out.eb 4
      go_wp2_with fail
      refine (HS.out.fput 329 (oct (0) 7 ++ [0]) (by rw [octN]; omega)).mono ?_
      rintro e w18 ⟨⟨vw18, rfl⟩, L11, hL11, hS⟩
      have HL11 := hid hL11
      clear HS hL11 c0 c1 c2 c3 c4
      have HS := hid hS
      clear hS; have c0 : w18.cell? ⟨w.heap.size, 0, none⟩ = some (str nm) := cell_of_block HS.out.eb 0; have c1 : w18.cell? ⟨w.heap.size, 1, none⟩ = some (.int .i64 4) := cell_of_block HS.out.eb 1; have c2 : w18.cell? ⟨w.heap.size, 2, none⟩ = some (.int .i64 (md : Nat)) := cell_of_block HS.out.eb 2; have c3 : w18.cell? ⟨w.heap.size, 3, none⟩ = some (str lk) := cell_of_block HS.out.eb 3; have c4 : w18.cell? ⟨w.heap.size, 4, none⟩ = some (.slice ao da.length cap) := cell_of_block HS.out.eb 4
      clear hcw17
      go_wp2_with fail
      refine (HS.out.oct8 (0) (by omega)).mono ?_
      rintro e w19 ⟨⟨vw19, rfl, aw19, lw19, cw19, rfl, hcw19⟩, hS⟩
      clear HS c0 c1 c2 c3 c4
      have HS := hid hS
      clear hS; have c0 : w19.cell? ⟨w.heap.size, 0, none⟩ = some (str nm) := cell_of_block HS.out.eb 0; have c1 : w19.cell? ⟨w.heap.size, 1, none⟩ = some (.int .i64 4) := cell_of_block HS.out.eb 1; have c2 : w19.cell? ⟨w.heap.size, 2, none⟩ = some (.int .i64 (md : Nat)) := cell_of_block HS.out.eb 2; have c3 : w19.cell? ⟨w.heap.size, 3, none⟩ = some (str lk) := cell_of_block HS.out.eb 3; have c4 : w19.cell? ⟨w.heap.size, 4, none⟩ = some (.slice ao da.length cap) := cell_of_block HS.out.eb 4
      go_wp2_with fail
      refine (HS.out.fput 337 (oct (0) 7 ++ [0]) (by rw [octN]; omega)).mono ?_
      rintro e w20 ⟨⟨vw20, rfl⟩, L12, hL12, hS⟩
      have HL12 := hid hL12
      clear HS hL12 c0 c1 c2 c3 c4
      have HS := hid hS
      clear hS; have c0 : w20.cell? ⟨w.heap.size, 0, none⟩ = some (str nm) := cell_of_block HS.out.eb 0; have c1 : w20.cell? ⟨w.heap.size, 1, none⟩ = some (.int .i64 4) := cell_of_block HS.out.eb 1; have c2 : w20.cell? ⟨w.heap.size, 2, none⟩ = some (.int .i64 (md : Nat)) := cell_of_block HS.out.eb 2; have c3 : w20.cell? ⟨w.heap.size, 3, none⟩ = some (str lk) := cell_of_block HS.out.eb 3; have c4 : w20.cell? ⟨w.heap.size, 4, none⟩ = some (.slice ao da.length cap) := cell_of_block HS.out.eb 4
      clear hcw19
      have HSm := hid (fSum_any L12 _ w20 HS.out.rd)
      rw [if_pos HS.out.len] at HSm
      have HF := hid (HEnd.out L12 (by rw [HL12.out, HL11.out, HL10.out, HL9.out, HL8.out, HL7.out, HL6.out, HL5.out, HL4.out, HL3.out, HL2.out]; rfl))
      have hsb := sumH_bounds HS.out.len
      obtain ⟨sm, hsm⟩ : ∃ sm : Nat, sumH L12 = (sm : Int) := ⟨(sumH L12).toNat, by omega⟩
      rw [hsm] at HSm HF
      rw [Int.toNat_natCast] at HF
      have HSb : Hid (sm ≤ 8589934592) := by unfold Hid; omega
      clear hsb hsm
      go_wp2_with fail
      refine HSm.out.mono ?_
      rintro e w21 ⟨rfl, rfl⟩
      go_wp2_with fail
      refine (HS.out.oct8 (sm) (HSb.out)).mono ?_
      rintro e w22 ⟨⟨vw22, rfl, aw22, lw22, cw22, rfl, hcw22⟩, hS⟩
      clear HS c0 c1 c2 c3 c4
      have HS := hid hS
      clear hS; have c0 : w22.cell? ⟨w.heap.size, 0, none⟩ = some (str nm) := cell_of_block HS.out.eb 0; have c1 : w22.cell? ⟨w.heap.size, 1, none⟩ = some (.int .i64 4) := cell_of_block HS.out.eb 1; have c2 : w22.cell? ⟨w.heap.size, 2, none⟩ = some (.int .i64 (md : Nat)) := cell_of_block HS.out.eb 2; have c3 : w22.cell? ⟨w.heap.size, 3, none⟩ = some (str lk) := cell_of_block HS.out.eb 3; have c4 : w22.cell? ⟨w.heap.size, 4, none⟩ = some (.slice ao da.length cap) := cell_of_block HS.out.eb 4
      go_wp2_with fail
      refine (HS.out.fput 148 (oct (sm) 7 ++ [0]) (by rw [octN]; omega)).mono ?_
      rintro e w23 ⟨⟨vw23, rfl⟩, L13, hL13, hS⟩
      have HL13 := hid hL13
      clear HS hL13 c0 c1 c2 c3 c4
      have HS := hid hS
      clear hS; have c0 : w23.cell? ⟨w.heap.size, 0, none⟩ = some (str nm) := cell_of_block HS.out.eb 0; have c1 : w23.cell? ⟨w.heap.size, 1, none⟩ = some (.int .i64 4) := cell_of_block HS.out.eb 1; have c2 : w23.cell? ⟨w.heap.size, 2, none⟩ = some (.int .i64 (md : Nat)) := cell_of_block HS.out.eb 2; have c3 : w23.cell? ⟨w.heap.size, 3, none⟩ = some (str lk) := cell_of_block HS.out.eb 3; have c4 : w23.cell? ⟨w.heap.size, 4, none⟩ = some (.slice ao da.length cap) := cell_of_block HS.out.eb 4
      clear hcw22
      have HFin : Hid (Below w.heap.size w w23 ∧ blkB w23 g ((blkE ⟨nm, 4, md, lk, da⟩).take 512)) := ⟨HS.out.below, by rw [← HF.out, ← HL13.out]; exact HS.out.blk⟩
      clear HS HF HL13
      go_wp2
      go_ret
      exact ⟨g, rfl, Nat.le_of_lt HG.out, HFin.out.1, HFin.out.2⟩
end Go.Proofs.Ytdfnhgkabaikaaa
