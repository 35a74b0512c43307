/- The walk of law03's live. -/
import Derived.Test.YtoeiodiadanhkaaGreatLiveP
namespace Go.Proofs.YtoeiodiadanhkaaGreat
open Go.RowKit
set_option maxRecDepth 100000 in
set_option maxHeartbeats 2000000 in
theorem wlive_any (w : World) : Calls Tryz.prog 11 #[] w fun e w' => e = .returned (.bool true) ∧ Below w.heap.size w w' := by
  go_enter Tryz.func11, Tryz.ntmps11
  go_wp2_with fail
  refine (new_disk 8 (by omega) (by omega) _).mono ?_
  rintro e w1 ⟨d, rfl, hD, -, -, hB⟩
  have HD : Hid (DiskIn w1 d wS0) := hD
  have HB1 := hid hB
  have HOp := hid (open_zero d wS0 3 w1 hD (by decide) (by decide) (by rw [wS0_len]; decide) wS0_seen)
  clear hD hB
  go_wp2_with fail
  refine HOp.out.mono ?_
  clear HOp
  rintro e w2 ⟨hb2, p, d2, rfl, hp2, hL2⟩
  have HL2 := hid hL2
  have HB2 := hid (HB1.out.trans (hb2.mono HB1.out.size))
  have hs12 := hb2.size
  have hpl := lt_of_heap hL2.heap
  clear hb2 hL2
  have HAl := hid ((Below.refl w2.heap.size w2).alloc (Nat.le_refl _) (.cells #[.int .i64 2, .int .i64 0] 3))
  have hdp := deed_pages [2, 0] (some ⟨w2.heap.size, 0, none⟩) 2 5 (w2.alloc (.cells #[.int .i64 2, .int .i64 0] 3)) (fun j hj => ⟨w2.heap.size, 0, rfl, fun i hi => by
    rw [Nat.zero_add, cell_of_block (block_new w2 _)]
    have h2 : i = 0 ∨ i = 1 := by simp at hi; omega
    rcases h2 with rfl | rfl <;> rfl⟩) (by decide)
  have HDp := hid hdp
  clear hdp
  go_wp2_with fail
  generalize w2.alloc (.cells #[.int .i64 2, .int .i64 0] 3) = wA at *
  refine HDp.out.mono ?_
  clear HDp
  rintro e w3 ⟨hb3, v, bs, rfl, hrow, hbs⟩
  obtain ⟨g, cap, rfl, hg1, hg2⟩ := hrow.form (by decide)
  have hB23 : Below w2.heap.size w2 w3 := HAl.out.trans (hb3.mono HAl.out.size)
  have hsA := HAl.out.size
  have hL3 := HL2.out.below hB23
  have hs23 := hB23.size
  have hps : pagesAt w3 (some ⟨g, 0, none⟩) (livePs (bs 0) (bs 1)) := fun j hj => ⟨g, 0, rfl, fun i hi => by
    have h2 : i = 0 ∨ i = 1 := by simp [livePs] at hi; omega
    have q0 := hrow.cellAt 0 (by decide)
    have q1 := hrow.cellAt 1 (by decide)
    have q2 := hrow.cellAt 2 (by decide)
    have q3 := hrow.cellAt 3 (by decide)
    rcases h2 with rfl | rfl
    · exact ⟨q0, q1⟩
    · exact ⟨q2, q3⟩⟩
  have hb0 := hbs 0 (by decide)
  have hb1 := hbs 1 (by decide)
  have hv : GrpBytes w3 (grpVal (livePs (bs 0) (bs 1)) 2) liveL (fun i => w1.heap.size ≤ i ∧ i < p) := fun n v hnv => by
    rw [liveVal] at hnv
    by_cases e0 : n = 0
    · subst e0
      rw [if_pos rfl] at hnv
      exact ⟨⟨bs 1, 0, none⟩, 512, (Option.some.inj hnv).symm, hb1.2.at, length_rowX 5 1, fun hf => by have h9 : w1.heap.size ≤ bs 1 ∧ bs 1 < p := hf; omega⟩
    · rw [if_neg e0] at hnv
      by_cases e2 : n = 2
      · subst e2
        rw [if_pos rfl] at hnv
        exact ⟨⟨bs 0, 0, none⟩, 512, (Option.some.inj hnv).symm, hb0.2.at, length_rowX 5 0, fun hf => by have h9 : w1.heap.size ≤ bs 0 ∧ bs 0 < p := hf; omega⟩
      · rw [if_neg e2] at hnv; cases hnv
  have hcm := commit_ok (livePs (bs 0) (bs 1)) (some ⟨g, 0, none⟩) cap liveL w3 hL3 (fun i hi => by omega) (by rw [wS0_len]; decide) hps (show 1 ≤ 2 by decide) (show 2 ≤ 3 by decide) (show 2 ≤ 100 by decide) (fun j hj => by
    rw [wS0_pages]
    have h2 : j = 0 ∨ j = 1 := by simp [livePs] at hj; omega
    rcases h2 with rfl | rfl
    · exact ⟨show (0 : Int) ≤ 2 by decide, show (2 : Int) < ((4 : Nat) : Int) by decide⟩
    · exact ⟨show (0 : Int) ≤ 0 by decide, show (0 : Int) < ((4 : Nat) : Int) by decide⟩) (liveErr _ _) hv (show 0 ≤ 800000 by decide)
  have hcm2 : Calls Tryz.prog 13 #[.pointer (some ⟨p, 0, none⟩), .slice (some ⟨g, 0, none⟩) 2 cap] w3 fun e w' => e = .returned (.int .i64 0) ∧ ∃ d', LogIn w' p d' (writtenS wS0 3 liveL (grpKeys (grpVal (livePs (bs 0) (bs 1)) 2) (pagesS wS0 3))) 3 0 (fun i => (w1.heap.size ≤ i ∧ i < p) ∨ (w3.heap.size ≤ i ∧ i < w'.heap.size)) ∧ Keeps (fun i => w1.heap.size ≤ i ∧ i < p) w3 w' := hcm
  rw [wS0_pages, liveKeys] at hcm2
  have HCm := hid hcm2
  have HB3 := hid (HB2.out.trans (hB23.mono HB2.out.size))
  have hs01 := HB1.out.size
  clear hrow hbs hg1 hg2 hL3 hps hb0 hb1 hv hcm hcm2 hB23 hb3 HL2 HAl
  have HLs := hid live_seen
  have HLo := hid live_ops
  have HLl := hid live_len
  generalize writtenS wS0 3 liveL [0, 2] = W at *
  go_wp2_with fail
  refine HCm.out.mono ?_
  clear HCm
  rintro e w4 ⟨rfl, d4, hL4, hK4⟩
  have HB4 := hid (HB3.out.trans (hK4.below HB3.out.size (fun i hi => by omega)))
  have hrd := log_read (n := 0) w4 hL4 (by rw [HLl.out]; decide) (by unfold pagesS; rw [HLl.out]; decide)
  rw [HLs.out, show ByteArray.size ⟨(rowX 5 1).toArray⟩ = 512 from length_rowX 5 1] at hrd
  have HRd := hid hrd
  have HL4 := hid hL4
  clear hL4 hK4 hrd
  go_wp2_with fail
  refine HRd.out.mono ?_
  clear HRd
  rintro e w5 ⟨rb, rc, rfl, hrb, hat, hb5⟩
  have hc5 : w5.cell? ⟨rb, 0, none⟩ = some (.int .u8 6) := by
    have h0 := hat 0 (by show 0 < (rowX 5 1).length; rw [length_rowX]; decide)
    rw [Addr.add_mid, Nat.zero_add] at h0
    rw [h0]
    have e6 : ((rowX 5 1)[0]'(by rw [length_rowX]; decide)) = 6 := by
      unfold rowX; rw [List.getElem_replicate]; decide
    show some (Value.int .u8 ((((rowX 5 1)[0]'(by rw [length_rowX]; decide)).toNat : Nat) : Int)) = _
    rw [e6]; rfl
  have hL5 := HL4.out.below hb5
  have HB5 := hid (HB4.out.trans (hb5.mono HB4.out.size))
  have hcp := log_capacity w5 hL5 (by decide)
  rw [show min 3 100 = 3 by decide] at hcp
  have HCp := hid hcp
  have HC5 := hid hc5
  have HL5 := hid hL5
  have hrl := World.block_lt_of_cell? w5 _ hc5
  clear hat hb5 hcp hL5 HL4 hc5
  go_wp2_with fail
  refine HCp.out.mono ?_
  clear HCp
  rintro e w6 ⟨rfl, hb6⟩
  have hL6 := HL5.out.below hb6
  have HB6 := hid (HB5.out.trans (hb6.mono HB5.out.size))
  have hpg := log_pages w6 hL6 (by rw [HLl.out]; decide)
  rw [show pagesS W 3 = 4 by unfold pagesS; rw [HLl.out]] at hpg
  have HPg := hid hpg
  have HL6 := hid hL6
  have HC6 := hid ((hb6.cell (p := ⟨rb, 0, none⟩) hrl).trans HC5.out)
  have hs6 := hb6.size
  clear hb6 hpg hL6 HL5 HC5
  go_wp2_with fail
  refine HPg.out.mono ?_
  clear HPg
  rintro e w7 ⟨rfl, hb7⟩
  have hL7 := HL6.out.below hb7
  have HB7 := hid (HB6.out.trans (hb7.mono HB6.out.size))
  have hc7 : w7.cell? ⟨rb, 0, none⟩ = some (.int .u8 6) := (hb7.cell (p := ⟨rb, 0, none⟩) (by show rb < _; omega)).trans HC6.out
  have HDk := hid (log_disk w7 hL7 (by rw [HLo.out]; decide))
  clear hb7 hL7 HL6 HC6
  go_wp2_with fail
  refine HDk.out.mono ?_
  clear HDk
  rintro e w8 ⟨hb8, d8, rfl, hC8, -⟩
  have hop := ops_disk_rd d8 W w8 hC8.rd
  rw [HLo.out] at hop
  have HOp := hid hop
  have HB8 := hid (HB7.out.trans (hb8.mono HB7.out.size))
  clear hb8 hC8 hop hc7
  go_wp2_with fail
  refine HOp.out.mono ?_
  clear HOp
  rintro e w9 ⟨rfl, h9⟩
  obtain rfl := h9.symm
  go_wp2
  go_ret
  exact ⟨rfl, HB8.out⟩
end Go.Proofs.YtoeiodiadanhkaaGreat
