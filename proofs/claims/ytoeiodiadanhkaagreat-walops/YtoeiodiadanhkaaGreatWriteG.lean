/- wal.layout.write: a group is written to the log, its head, and its homes. -/
import Derived.Test.YtoeiodiadanhkaaGreatBring
namespace Go.Proofs.YtoeiodiadanhkaaGreat
open Go.RowKit Go.Maps
/-- A disk behind the first j of the group's pages were written to the log. -/
def logTo (S : DiskS) (l : Int → List UInt8) (ks : List Int) (j : Nat) : DiskS := (List.range j).foldl (fun S (i : Nat) => S.wrote (1 + (i : Int)) ⟨(l (ks.getD i 0)).toArray⟩) S
theorem logTo_succ (S : DiskS) (l : Int → List UInt8) (ks : List Int) (j : Nat) (h : j < ks.length) : logTo S l ks (j + 1) = (logTo S l ks j).wrote (1 + (j : Int)) ⟨(l ks[j]).toArray⟩ := by
  rw [logTo, List.range_succ, List.foldl_append]
  simp [logTo, h]
theorem logTo_facts (S : DiskS) (l : Int → List UInt8) (ks : List Int) : ∀ j, (logTo S l ks j).safe = S.safe ∧ (logTo S l ks j).ops.length = S.ops.length + j
  | 0 => ⟨rfl, rfl⟩
  | j + 1 => by
    obtain ⟨h1, h2⟩ := logTo_facts S l ks j
    rw [logTo, List.range_succ, List.foldl_append]
    refine ⟨h1, ?_⟩
    show ((logTo S l ks j).ops ++ [_]).length = _
    rw [List.length_append, h2]; rfl
/-- A disk behind a group was written. -/
def writtenS (S : DiskS) (size : Nat) (l : Int → List UInt8) (ks : List Int) : DiskS :=
  homeS (((logTo S l ks ks.length).flushed.wrote 0 ⟨(headS (ks.map Int.toNat)).toArray⟩).flushed) size l ks
theorem natsZ_toNat (ks : List Int) (h : ∀ k ∈ ks, 0 ≤ k) : natsZ (ks.map Int.toNat) = ks := by
  unfold natsZ
  rw [List.map_map]
  conv => rhs; rw [← List.map_id ks]
  exact List.map_congr_left (fun k hk => by have := h k hk; simp; omega)
set_option maxRecDepth 100000 in
set_option maxHeartbeats 2000000 in
theorem write_group (d : DL) (S : DiskS) (F : Nat → Prop) (size m B : Nat) (D : DataW Value) (N : Nat) (val : Int → Option Value) (l : Int → List UInt8) (w : World) (h : AnyAt w d S F) (hF : ∀ i, F i → i < w.heap.size)
    (hg : GrpIn w m B D N val) (hm : ¬ F m) (hB : B ≤ 1000000) (hv : GrpBytes w val l F) (hs : 1 + size + N ≤ S.safe.length) (hk : (grpKeys val N).length ≤ 100) (hk2 : (grpKeys val N).length ≤ size) (ho : S.ops.length ≤ 800000) :
    Calls Tryz.prog 41 #[layV d.p size, .map (some m)] w fun e w' => e = .returned (.tuple #[]) ∧ ∃ d', d'.p = d.p ∧ AnyAt w' d' (writtenS S size l (grpKeys val N)) (fun i => F i ∨ (w.heap.size ≤ i ∧ i < w'.heap.size)) ∧ Keeps F w w' := by
  have hmost := h.rd.plates.most
  have HA0 := hid ((Below.refl w.heap.size w).alloc (Nat.le_refl _) (.cells #[.pointer (some ⟨d.p, 0, none⟩), .int .i64 size] 77))
  have Hb0 := hid (block_new w (.cells #[.pointer (some ⟨d.p, 0, none⟩), .int .i64 size] 77))
  have HNu := hid (fun W hW => grp_numbers m B D N val W (hg.below (w' := W) hW) hB)
  have H := hid h
  have HG := hid hg
  have HV := hid hv
  have HFl := hid hF
  have HMw := hid hg.mapOwn.lt
  clear h hg hv hF
  unfold layV
  go_enter Tryz.func41, Tryz.ntmps41
  go_wp2_with fail
  generalize w.alloc (.cells #[.pointer (some ⟨d.p, 0, none⟩), .int .i64 size] 77) = wA at *
  refine (HNu.out _ HA0.out).mono ?_
  rintro e w1 ⟨v, rfl, hrow, -, hb1⟩
  obtain ⟨ra, rc, rfl, hints⟩ := row_slice hrow
  have HI := hid hints
  have HB1 := hid (HA0.out.trans (hb1.mono HA0.out.size))
  have HL1 := hid (below_block hb1 Hb0.out (lt_of_heap Hb0.out))
  have HG1 := hid (HG.out.below HB1.out)
  have HD1 := hid ((H.out.below HB1.out).mono (G := fun i => F i ∨ (w1.heap.size ≤ i ∧ i < w1.heap.size)) (fun i hi => .inl hi))
  have hsA : w.heap.size < wA.heap.size := lt_of_heap Hb0.out
  have hs1 := hb1.size
  have HFw : Hid (¬ F w.heap.size) := fun hf => by have := HFl.out _ hf; omega
  have HKey := hid (fun j (hj : j < (grpKeys val N).length) => mem_grpKeys.1 (List.getElem_mem hj))
  have HFa := hid (fun ks => logTo_facts S l ks)
  clear hrow hb1 HNu hints HA0 Hb0 H HG
  generalize hks : grpKeys val N = ks at *
  have HKs := hid hks
  clear hks
  have HNs := hid (natsZ_toNat ks (fun k hk => by obtain ⟨q, hq, rfl⟩ := List.getElem_of_mem hk; exact (HKey.out q hq).1))
  have HNm : Hid (∀ n ∈ ks.map Int.toNat, n < 65536) := fun n hn => by
    obtain ⟨k, hk, rfl⟩ := List.mem_map.1 hn
    obtain ⟨q, hq, rfl⟩ := List.getElem_of_mem hk
    have := (HKey.out q hq).2.1
    omega
  go_wp2
  go_loopw [11] (fun i wr => ∃ (j : Nat) (dj : DL), j ≤ ks.length ∧ i = .int .i64 j ∧ Hid (dj.p = d.p) ∧ Hid (AnyAt wr dj (logTo S l ks j) (fun i => F i ∨ (w1.heap.size ≤ i ∧ i < wr.heap.size))) ∧ Hid (Keeps F w1 wr)) (fun i _ => ks.length - (intOf i).toNat)
  case atStart => exact ⟨0, d, by omega, rfl, rfl, HD1, Keeps.refl _ _⟩
  case round =>
    obtain ⟨j, dj, hj, rfl, hp, hD, hK⟩ := hrel
    have hLr := hK.out.heap HL1.out HFw.out
    have l0 : wr.cell? ⟨w.heap.size, 0, none⟩ = some (.pointer (some ⟨d.p, 0, none⟩)) := cell_of_block hLr 0
    have l1 : wr.cell? ⟨w.heap.size, 1, none⟩ = some (.int .i64 size) := cell_of_block hLr 1
    have hsr := hK.out.size
    by_cases hlt : j < ks.length
    · have hj0 : (0 : Int) ≤ (j : Int) := by omega
      have hj1 : (j : Int) < (ks.length : Int) := by omega
      obtain ⟨g, rfl, hg1, hg2, hgc⟩ := HI.out j hlt
      have hcj : wr.cell? ⟨g, j, none⟩ = some (.int .i64 ks[j]) := by
        refine hK.out.cell (ad := ⟨g, j, none⟩) ?_ (fun hf => ?_)
        · rw [hgc j hlt]; simp [hlt]
        · have := HFl.out _ hf
          have e : (⟨g, j, none⟩ : Addr).block = g := rfl
          omega
      obtain ⟨k0, k1, k2⟩ := HKey.out j hlt
      obtain ⟨pv, hpv⟩ := Option.isSome_iff_exists.1 k2
      obtain ⟨ad, pc, rfl, hby, h512, hnf⟩ := HV.out _ _ hpv
      have hby2 : bytesAt wr ad (l ks[j]) := fun q hq => hK.out.cell ((HB1.out.cell (World.block_lt_of_cell? w _ (hby q hq))).trans (hby q hq)) (by rw [add_block]; exact hnf)
      have hlook : (Instr.lookup 81 (.map (some m)) (.int .i64 ks[j]) false).run Tryz.prog wr = .ok (.slice (some ad) 512 pc) wr := by
        have hgW := HG1.out.keep hK.out hm
        obtain ⟨u, hr, hu⟩ := self_lookup hgW.mapOwn (int_keyed Tryz.underlying3) Tryz.underlying81 (Tryz.zeroValue37 wr) (keyI (n := ks[j]) (by omega) (by omega))
        rw [hr]
        rw [hgW.held ks[j] _ hpv] at hu
        rw [← DataW.held.inj hu]
      have HSn := hid (logTo_succ S l ks j hlt)
      have hwr := at_write dj (logTo S l ks j) (fun i => F i ∨ (w1.heap.size ≤ i ∧ i < wr.heap.size)) (1 + (j : Int)) (l ks[j]) ad pc wr hD.out (by rw [(HFa.out ks j).2]; omega) (by omega) (by rw [(HFa.out ks j).1]; omega) h512 hby2
      rw [hp.out, ← HSn.out] at hwr
      have HWr := hid hwr
      clear hgc hg1 hby h512 hnf hpv k2 hby2 hwr HSn
      generalize ks[j] = x at *
      go_wp2_with fail
      refine HWr.out.mono ?_
      clear HWr
      rintro e w3 ⟨rfl, d3, e3, hA3, hK3⟩
      have HK13 : Hid (Keeps F w1 w3) := hK.out.trans hK3 (fun i hi => hi.imp id (fun h => h.1))
      have HD3 := hid (hA3.next (w := w1) (w1 := wr) hK.out.size hK3.size)
      have HE3 : Hid (d3.p = d.p) := e3
      clear hA3 hK3 e3 l0 l1 hcj hlook hLr
      go_wp2
      exact ⟨⟨j + 1, d3, by omega, by go_num, HE3, HD3, HK13⟩, by simp [intOf]; omega⟩
    · obtain rfl : j = ks.length := by omega
      have hge : ¬ ((ks.length : Int) < (ks.length : Int)) := by omega
      have HFaK := hid (HFa.out ks ks.length)
      have hfl := at_flush dj (logTo S l ks ks.length) _ wr hD.out (by rw [HFaK.out.2]; omega)
      rw [hp.out] at hfl
      have HFls := hid hfl
      clear hfl
      go_wp2_with fail
      refine HFls.out.mono ?_
      clear HFls
      rintro e w2 ⟨rfl, d2, e2, hA2, hK2⟩
      have hK12 : Keeps F w1 w2 := hK.out.trans hK2 (fun i hi => hi.imp id (fun h => h.1))
      have HD2 := hid (hA2.next (w := w1) (w1 := wr) hK.out.size hK2.size)
      have hL2 := hK12.heap HL1.out HFw.out
      have HE2 : Hid (d2.p = d.p) := e2
      have m0 : w2.cell? ⟨w.heap.size, 0, none⟩ = some (.pointer (some ⟨d.p, 0, none⟩)) := cell_of_block hL2 0
      have hin2 : intsAt w2.drew ra (natsZ (ks.map Int.toNat)) := by
        rw [HNs.out]
        intro j hj
        obtain ⟨g, rfl, hg1, hg2, hgc⟩ := HI.out j hj
        refine ⟨g, 0, rfl, fun i hi => ?_⟩
        rw [Nat.zero_add]
        refine hK12.drew.cell (ad := ⟨g, i, none⟩) ?_ (fun hf => ?_)
        · rw [hgc i hi]; simp [hi]
        · have := HFl.out _ hf
          have e : (⟨g, i, none⟩ : Addr).block = g := rfl
          omega
      have hhd := head_of (ks.map Int.toNat) ra rc w2.drew hin2 (by rw [List.length_map]; omega) HNm.out
      rw [List.length_map] at hhd
      have HHd := hid hhd
      have hlh : (headS (ks.map Int.toNat)).length = 512 := length_headTo _ _ (Nat.le_refl _) (by rw [List.length_map]; omega)
      have HLh := hid hlh
      have HK12 := hid hK12
      have HWS : Hid (writtenS S size l ks = homeS (((logTo S l ks ks.length).flushed.wrote 0 ⟨(headS (ks.map Int.toNat)).toArray⟩).flushed) size l ks) := rfl
      clear hA2 hK2 hK12 hL2 e2 l0 l1 hlh hhd hin2 hLr HNs HNm
      generalize headS (ks.map Int.toNat) = HS0 at *
      go_wp2
      refine wp_region_noPanic ?_
      refine wp_region_held_drew (S := fun W => W.cell? ⟨w.heap.size, 0, none⟩ = some (.pointer (some ⟨d.p, 0, none⟩))) (by kernel_rfl) m0 (fun hHeld => ?_)
      refine wpAnyH_take (i := 0) (v := ?_) rfl (by kernel_rfl) (by kernel_rfl) (by kernel_rfl) (fun _ _ _ h => h) (Or.inl ⟨by rfl, ?_⟩) (by assumption) ?_
      rotate_left
      · (intro W hSw; (try dsimp only at hSw); go_simp; try with_reducible rfl)
      try simp only [List.getElem_toArray, List.getElem_cons_zero, Act.put, List.setIfInBounds_toArray, List.set_cons_zero, List.set_cons_succ]
      refine wpAnyH_take (i := 1) (v := ?_) rfl (by kernel_rfl) (by kernel_rfl) (by kernel_rfl) (fun _ _ _ h => h) (Or.inl ⟨by rfl, ?_⟩) (by assumption) ?_
      rotate_left
      · (intro W hSw; (try dsimp only at hSw); go_simp; try with_reducible rfl)
      try simp only [List.getElem_toArray, List.getElem_cons_succ, List.getElem_cons_zero, Act.put, List.setIfInBounds_toArray, List.set_cons_zero, List.set_cons_succ]
      refine wpAnyH_take (i := 2) (v := ?_) rfl (by kernel_rfl) (by kernel_rfl) (by kernel_rfl) (fun _ _ _ h => h) (Or.inl ⟨by rfl, ?_⟩) (by assumption) ?_
      rotate_left
      · (intro W hSw; (try dsimp only at hSw); go_simp; try with_reducible rfl)
      try simp only [List.getElem_toArray, List.getElem_cons_succ, List.getElem_cons_zero, Act.put, List.setIfInBounds_toArray, List.set_cons_zero, List.set_cons_succ]
      refine wpAnyH_ready (rs := [3]) (by kernel_rfl) (by simp) (AllReadyH.cons rfl (fun K hKK => ?_) AllReadyH.nil)
      rw [if_pos (by rfl)]
      go_simp
      refine HHd.out.mono ?_
      clear HHd
      rintro e w3 ⟨hb, rfl, hhb, hob, hb3⟩
      have hK3 : Keeps F w1 w3 := HK12.out.drew.andBelow hb3
      have hL3 := hK3.heap HL1.out HFw.out
      have n0 : w3.cell? ⟨w.heap.size, 0, none⟩ = some (.pointer (some ⟨d.p, 0, none⟩)) := cell_of_block hL3 0
      have hs3 : w2.heap.size ≤ w3.heap.size := hb3.size
      have hD3 := ((HD2.out.below (w' := w2.drew) (Below.refl _ _).drew).below hb3).later (w1 := w2) hs3
      have hwr := at_write d2 _ _ 0 HS0 ⟨hb, 0, none⟩ 512 w3 hD3 (by simp only [DiskS.flushed, List.length_append, List.length_singleton]; rw [HFaK.out.2]; omega) (by omega) (by show (0 : Int) < ((imgS _).length : Nat); rw [length_imgS, HFaK.out.1]; omega) HLh.out hob.at
      rw [HE2.out] at hwr
      have HWr := hid hwr
      have HK3 := hid hK3
      clear hb3 hL3 hwr hD3 hK3 hob hhb
      go_wp2_with fail
      refine hKK.out _ _ n0 (fun hHeld => ?_)
      clear hKK K
      try simp only [List.getElem_toArray, List.getElem_cons_succ, List.getElem_cons_zero, Act.put, List.setIfInBounds_toArray, List.set_cons_zero, List.set_cons_succ]
      refine wpAnyH_ready (rs := [4]) (by kernel_rfl) (by simp) (AllReadyH.cons rfl (fun K hKK => ?_) AllReadyH.nil)
      rw [if_pos (by rfl)]
      go_simp
      refine HWr.out.mono ?_
      clear HWr
      rintro e w4 ⟨rfl, d4, e4, hA4, hK4⟩
      have hK14 : Keeps F w1 w4 := HK3.out.trans hK4 (fun i hi => hi.imp id (fun h => h.1))
      have hL4 := hK14.heap HL1.out HFw.out
      have q0 : w4.cell? ⟨w.heap.size, 0, none⟩ = some (.pointer (some ⟨d.p, 0, none⟩)) := cell_of_block hL4 0
      have hD4 := hA4.next (w := w1) (w1 := w3) HK3.out.size hK4.size
      have hfl := at_flush d4 _ _ w4 hD4 (by simp only [DiskS.wrote, DiskS.flushed, List.length_append, List.length_singleton]; rw [HFaK.out.2]; omega)
      rw [e4] at hfl
      have HFls := hid hfl
      have HK14 := hid hK14
      clear hA4 hK4 hK14 hL4 hD4 hfl e4
      go_wp2_with fail
      refine hKK.out _ _ q0 (fun hHeld => ?_)
      clear hKK K
      refine wpAnyH_done (by kernel_rfl) ?_ _
      refine NoPanic.normal ?_
      go_wp2_with fail
      refine HFls.out.mono ?_
      clear HFls
      rintro e w5 ⟨rfl, d5, e5, hA5, hK5⟩
      have hK15 : Keeps F w1 w5 := HK14.out.trans hK5 (fun i hi => hi.imp id (fun h => h.1))
      have hD5 := hA5.next (w := w1) (w1 := w4) HK14.out.size hK5.size
      have hL5 := hK15.heap HL1.out HFw.out
      have r0 : w5.cell? ⟨w.heap.size, 0, none⟩ = some (.pointer (some ⟨d.p, 0, none⟩)) := cell_of_block hL5 0
      have r1 : w5.cell? ⟨w.heap.size, 1, none⟩ = some (.int .i64 size) := cell_of_block hL5 1
      have hmw : m < w.heap.size := HMw.out
      have hF5 : ∀ i, F i ∨ (w1.heap.size ≤ i ∧ i < w5.heap.size) → i < w5.heap.size := fun i hi => hi.elim (fun h => by have := HFl.out i h; have := HB1.out.size; have := hK15.size; omega) (fun h => h.2)
      have hm5 : ¬ (F m ∨ (w1.heap.size ≤ m ∧ m < w5.heap.size)) := fun h => h.elim hm (fun h => by have := HB1.out.size; omega)
      have hv5 : GrpBytes w5 val l (fun i => F i ∨ (w1.heap.size ≤ i ∧ i < w5.heap.size)) := fun n v hnv => by
        obtain ⟨ad, c, e, hby, h512, hnf⟩ := HV.out n v hnv
        refine ⟨ad, c, e, fun q hq => hK15.cell ((HB1.out.cell (World.block_lt_of_cell? w _ (hby q hq))).trans (hby q hq)) (by rw [add_block]; exact hnf), h512, fun hf => hf.elim hnf (fun hh => ?_)⟩
        have := World.block_lt_of_cell? w _ (hby 0 (by rw [h512]; decide))
        rw [add_block] at this
        have := HB1.out.size
        omega
      have hbr := bring_home d5 _ (fun i => F i ∨ (w1.heap.size ≤ i ∧ i < w5.heap.size)) size m B D N val l w5 hD5 hF5 (HG1.out.keep hK15 hm) hm5 hB hv5 (by show 1 + size + N ≤ (imgS _).length; rw [length_imgS]; show 1 + size + N ≤ (imgS _).length; rw [length_imgS, HFaK.out.1]; exact hs) (by rw [HKs.out]; exact hk) (by simp only [DiskS.wrote, DiskS.flushed, List.length_append, List.length_singleton]; rw [HFaK.out.2]; omega)
      rw [e5, HKs.out, ← HWS.out] at hbr
      unfold layV at hbr
      have HBr := hid hbr
      have HK15 := hid hK15
      clear hA5 hK5 hK15 e5 hD5 hL5 hF5 hm5 hv5 hbr
      go_wp2_with fail
      refine HBr.out.mono ?_
      clear HBr
      rintro e w6 ⟨rfl, d6, e6, hA6, hK6⟩
      have hK16 : Keeps F w1 w6 := HK15.out.trans hK6 (fun i hi => hi.imp id (fun h => h.1))
      have HD6 := hid (hA6.next (w := w1) (w1 := w5) HK15.out.size hK6.size)
      have HK16 := hid hK16
      have HE6 := hid e6
      clear hA6 hK6 hK16 e6
      go_wp2
      go_returns
      refine ⟨rfl, d6, HE6.out, ?_, (Keeps.of_below HB1.out).trans HK16.out (fun i hi => .inl hi)⟩
      rw [HKs.out]
      have hs01 := HB1.out.size
      exact HD6.out.mono (fun i hi => hi.imp id (fun h => ⟨by omega, h.2⟩))
end Go.Proofs.YtoeiodiadanhkaaGreat
