/- wal.layout.bringHome: a group is written to its homes. -/
import Derived.Test.YtoeiodiadanhkaaGreatGrouped
namespace Go.Proofs.YtoeiodiadanhkaaGreat
open Go.RowKit Go.Maps
/-- A disk behind the pages of ks were written to their homes. -/
def homeTo (S : DiskS) (size : Nat) (l : Int → List UInt8) (ks : List Int) : DiskS := ks.foldl (fun S n => S.wrote (1 + (size : Int) + n) ⟨(l n).toArray⟩) S
/-- .. and the log was forgotten. -/
def homeS (S : DiskS) (size : Nat) (l : Int → List UInt8) (ks : List Int) : DiskS := ((homeTo S size l ks).flushed.wrote 0 ⟨(headS []).toArray⟩).flushed
theorem homeTo_facts (size : Nat) (l : Int → List UInt8) : ∀ (ks : List Int) (S : DiskS), (homeTo S size l ks).safe = S.safe ∧ (homeTo S size l ks).ops.length = S.ops.length + ks.length
  | [], S => ⟨rfl, rfl⟩
  | k :: ks, S => by
    obtain ⟨h1, h2⟩ := homeTo_facts size l ks (S.wrote (1 + (size : Int) + k) ⟨(l k).toArray⟩)
    refine ⟨h1, ?_⟩
    show (homeTo (S.wrote (1 + (size : Int) + k) ⟨(l k).toArray⟩) size l ks).ops.length = _
    rw [h2]
    simp [DiskS.wrote]
    omega
theorem homeTo_snoc (S : DiskS) (size : Nat) (l : Int → List UInt8) (ks : List Int) (k : Int) : homeTo S size l (ks ++ [k]) = (homeTo S size l ks).wrote (1 + (size : Int) + k) ⟨(l k).toArray⟩ := by simp [homeTo]
/-- What the group's numbers stand for: 512 bytes each, in blocks that the disk doesn't write. -/
def GrpBytes (w : World) (val : Int → Option Value) (l : Int → List UInt8) (F : Nat → Prop) : Prop := ∀ n v, val n = some v → ∃ ad c, v = .slice (some ad) 512 c ∧ bytesAt w ad (l n) ∧ (l n).length = 512 ∧ ¬ F ad.block
set_option maxRecDepth 100000 in
set_option maxHeartbeats 2000000 in
theorem bring_home (d : DL) (S : DiskS) (F : Nat → Prop) (size m B : Nat) (D : DataW Value) (N : Nat) (val : Int → Option Value) (l : Int → List UInt8) (w : World) (h : AnyAt w d S F) (hF : ∀ i, F i → i < w.heap.size)
    (hg : GrpIn w m B D N val) (hm : ¬ F m) (hB : B ≤ 1000000) (hv : GrpBytes w val l F) (hs : 1 + size + N ≤ S.safe.length) (hk : (grpKeys val N).length ≤ 100) (ho : S.ops.length ≤ 900000) :
    Calls Tryz.prog 62 #[layV d.p size, .map (some m)] w fun e w' => e = .returned (.tuple #[]) ∧ ∃ d', d'.p = d.p ∧ AnyAt w' d' (homeS S size l (grpKeys val N)) (fun i => F i ∨ (w.heap.size ≤ i ∧ i < w'.heap.size)) ∧ Keeps F w w' := by
  have hmost := h.rd.plates.most
  have HA0 := hid ((Below.refl w.heap.size w).alloc (Nat.le_refl _) (.cells #[.pointer (some ⟨d.p, 0, none⟩), .int .i64 size] 77))
  have Hb0 := hid (block_new w (.cells #[.pointer (some ⟨d.p, 0, none⟩), .int .i64 size] 77))
  have HNu := hid (fun W hW => grp_numbers m B D N val W (hg.below (w' := W) hW) hB)
  have H := hid h
  have HG := hid hg
  have HV := hid hv
  have HFl := hid hF
  clear h hg hv hF
  unfold layV
  go_enter Tryz.func62, Tryz.ntmps62
  go_wp2_with fail
  generalize w.alloc (.cells #[.pointer (some ⟨d.p, 0, none⟩), .int .i64 size] 77) = wA at *
  refine (HNu.out _ HA0.out).mono ?_
  rintro e w1 ⟨v, rfl, hrow, -, hb1⟩
  obtain ⟨ra, rc, rfl, hints⟩ := row_slice hrow
  have HI := hid hints
  have HB1 := hid (HA0.out.trans (hb1.mono HA0.out.size))
  have HL1 := hid (below_block hb1 Hb0.out (lt_of_heap Hb0.out))
  have HG1 := hid (HG.out.below HB1.out)
  have HD1 := hid ((H.out.below HB1.out).mono (G := fun i => F i ∨ (w1.heap.size ≤ i ∧ i < w1.heap.size)) (fun i hi => .inl hi))
  have hsA : w.heap.size < wA.heap.size := lt_of_heap Hb0.out
  have hs1 := hb1.size
  have HFw : Hid (¬ F w.heap.size) := fun hf => by have := HFl.out _ hf; omega
  have HKey := hid (fun j (hj : j < (grpKeys val N).length) => mem_grpKeys.1 (List.getElem_mem hj))
  have HFa := hid (fun ks => homeTo_facts size l ks S)
  have HHs : Hid (homeS S size l (grpKeys val N) = ((homeTo S size l (grpKeys val N)).flushed.wrote 0 ⟨(headS []).toArray⟩).flushed) := rfl
  clear hrow hb1 HNu hints HA0 Hb0 H HG
  generalize hks : grpKeys val N = ks at *
  have HKs := hid hks
  clear hks
  go_wp2
  go_loopw [9] (fun i wr => ∃ (j : Nat) (dj : DL), j ≤ ks.length ∧ i = .int .i64 j ∧ Hid (dj.p = d.p) ∧ Hid (AnyAt wr dj (homeTo S size l (ks.take j)) (fun i => F i ∨ (w1.heap.size ≤ i ∧ i < wr.heap.size))) ∧ Hid (Keeps F w1 wr)) (fun i _ => ks.length - (intOf i).toNat)
  case atStart => exact ⟨0, d, by omega, rfl, rfl, HD1, Keeps.refl _ _⟩
  case round =>
    obtain ⟨j, dj, hj, rfl, hp, hD, hK⟩ := hrel
    have hLr := hK.out.heap HL1.out HFw.out
    have l0 : wr.cell? ⟨w.heap.size, 0, none⟩ = some (.pointer (some ⟨d.p, 0, none⟩)) := cell_of_block hLr 0
    have l1 : wr.cell? ⟨w.heap.size, 1, none⟩ = some (.int .i64 size) := cell_of_block hLr 1
    have hsr := hK.out.size
    by_cases hlt : j < ks.length
    · have hj0 : (0 : Int) ≤ (j : Int) := by omega
      have hj1 : (j : Int) < (ks.length : Int) := by omega
      obtain ⟨g, rfl, hg1, hg2, hgc⟩ := HI.out j hlt
      have hcj : wr.cell? ⟨g, j, none⟩ = some (.int .i64 ks[j]) := by
        refine hK.out.cell (ad := ⟨g, j, none⟩) ?_ (fun hf => ?_)
        · rw [hgc j hlt]; simp [hlt]
        · have := HFl.out _ hf
          have e : (⟨g, j, none⟩ : Addr).block = g := rfl
          omega
      obtain ⟨k0, k1, k2⟩ := HKey.out j hlt
      obtain ⟨pv, hpv⟩ := Option.isSome_iff_exists.1 k2
      obtain ⟨ad, pc, rfl, hby, h512, hnf⟩ := HV.out _ _ hpv
      have HBy := hid hby
      have H5 := hid h512
      have HNf := hid hnf
      have HPv := hid hpv
      have HSn : Hid (homeTo S size l (ks.take (j + 1)) = (homeTo S size l (ks.take j)).wrote (1 + (size : Int) + ks[j]) ⟨(l ks[j]).toArray⟩) := by unfold Hid; rw [List.take_succ_eq_append_getElem hlt, homeTo_snoc]
      have HFaj := hid (HFa.out (ks.take j))
      clear hgc hg1 hby h512 hnf hpv k2
      generalize ks[j] = x at *
      have hlook : ∀ W : World, Keeps F w1 W → (Instr.lookup 81 (.map (some m)) (.int .i64 x) false).run Tryz.prog W = .ok (.slice (some ad) 512 pc) W := fun W hW => by
        have hgW := HG1.out.keep hW hm
        obtain ⟨u, hr, hu⟩ := self_lookup hgW.mapOwn (int_keyed Tryz.underlying3) Tryz.underlying81 (Tryz.zeroValue37 W) (keyI (n := x) (by omega) (by omega))
        rw [hr]
        rw [hgW.held x _ HPv.out] at hu
        rw [← DataW.held.inj hu]
      have HLk := hid hlook
      have hhm := lay_home d.p size x wr.drew (by omega) k0 (by omega)
      unfold layV at hhm
      have HHm := hid hhm
      clear hlook hhm
      go_wp2
      refine wp_region_noPanic ?_
      refine wp_region_held_drew (S := fun W => W.cell? ⟨w.heap.size, 0, none⟩ = some (.pointer (some ⟨d.p, 0, none⟩)) ∧ W.cell? ⟨w.heap.size, 1, none⟩ = some (.int .i64 size) ∧ (Instr.lookup 81 (.map (some m)) (.int .i64 x) false).run Tryz.prog W = .ok (.slice (some ad) 512 pc) W) (by kernel_rfl) ⟨l0, l1, HLk.out wr.drew hK.out.drew⟩ (fun hHeld => ?_)
      refine wpAnyH_take (i := 0) (v := ?_) rfl (by kernel_rfl) (by kernel_rfl) (by kernel_rfl) (fun _ _ _ h => h) (Or.inl ⟨by rfl, ?_⟩) (by assumption) ?_
      rotate_left
      · (intro W hSw; (try dsimp only at hSw); obtain ⟨s0, s1, s2⟩ := hSw; go_simp; try with_reducible rfl)
      try simp only [List.getElem_toArray, List.getElem_cons_zero, Act.put, List.setIfInBounds_toArray, List.set_cons_zero, List.set_cons_succ]
      refine wpAnyH_take (i := 1) (v := ?_) rfl (by kernel_rfl) (by kernel_rfl) (by kernel_rfl) (fun _ _ _ h => h) (Or.inl ⟨by rfl, ?_⟩) (by assumption) ?_
      rotate_left
      · (intro W hSw; (try dsimp only at hSw); obtain ⟨s0, s1, s2⟩ := hSw; go_simp; try with_reducible rfl)
      try simp only [List.getElem_toArray, List.getElem_cons_succ, List.getElem_cons_zero, Act.put, List.setIfInBounds_toArray, List.set_cons_zero, List.set_cons_succ]
      refine wpAnyH_take (i := 2) (v := ?_) rfl (by kernel_rfl) (by kernel_rfl) (by kernel_rfl) (fun _ _ _ h => h) (Or.inl ⟨by rfl, ?_⟩) (by assumption) ?_
      rotate_left
      · (intro W hSw; (try dsimp only at hSw); obtain ⟨s0, s1, s2⟩ := hSw; go_simp; try with_reducible rfl)
      try simp only [List.getElem_toArray, List.getElem_cons_succ, List.getElem_cons_zero, Act.put, List.setIfInBounds_toArray, List.set_cons_zero, List.set_cons_succ]
      refine wpAnyH_take (i := 3) (v := ?_) rfl (by kernel_rfl) (by kernel_rfl) (by kernel_rfl) (fun _ _ _ h => h) (Or.inl ⟨by rfl, ?_⟩) (by assumption) ?_
      rotate_left
      · (intro W hSw; (try dsimp only at hSw); obtain ⟨s0, s1, s2⟩ := hSw; go_simp; try with_reducible rfl)
      try simp only [List.getElem_toArray, List.getElem_cons_succ, List.getElem_cons_zero, Act.put, List.setIfInBounds_toArray, List.set_cons_zero, List.set_cons_succ]
      refine wpAnyH_take (i := 5) (v := ?_) rfl (by kernel_rfl) (by kernel_rfl) (by kernel_rfl) (fun _ _ _ h => h) (Or.inl ⟨by rfl, ?_⟩) (by assumption) ?_
      rotate_left
      · (intro W hSw; (try dsimp only at hSw); obtain ⟨s0, s1, s2⟩ := hSw; go_simp; try with_reducible rfl)
      try simp only [List.getElem_toArray, List.getElem_cons_succ, List.getElem_cons_zero, Act.put, List.setIfInBounds_toArray, List.set_cons_zero, List.set_cons_succ]
      refine wpAnyH_take (i := 6) (v := ?_) rfl (by kernel_rfl) (by kernel_rfl) (by kernel_rfl) (fun _ _ _ h => h) (Or.inl ⟨by rfl, ?_⟩) (by assumption) ?_
      rotate_left
      · (intro W hSw; (try dsimp only at hSw); obtain ⟨s0, s1, s2⟩ := hSw; go_simp; try with_reducible rfl)
      try simp only [List.getElem_toArray, List.getElem_cons_succ, List.getElem_cons_zero, Act.put, List.setIfInBounds_toArray, List.set_cons_zero, List.set_cons_succ]
      refine wpAnyH_take (i := 7) (v := ?_) rfl (by kernel_rfl) (by kernel_rfl) (by kernel_rfl) (fun _ _ _ h => h) (Or.inl ⟨by rfl, ?_⟩) (by assumption) ?_
      rotate_left
      · (intro W hSw; (try dsimp only at hSw); obtain ⟨s0, s1, s2⟩ := hSw; go_simp; try with_reducible rfl)
      try simp only [List.getElem_toArray, List.getElem_cons_succ, List.getElem_cons_zero, Act.put, List.setIfInBounds_toArray, List.set_cons_zero, List.set_cons_succ]
      refine wpAnyH_ready (rs := [4]) (by kernel_rfl) (by simp) (AllReadyH.cons rfl (fun K hKK => ?_) AllReadyH.nil)
      rw [if_pos (by rfl)]
      go_simp
      refine HHm.out.mono ?_
      clear HHm
      rintro e w2 ⟨rfl, hb2⟩
      have hK2 : Keeps F w1 w2 := hK.out.drew.andBelow hb2
      have hL2 := hK2.heap HL1.out HFw.out
      have m0 : w2.cell? ⟨w.heap.size, 0, none⟩ = some (.pointer (some ⟨d.p, 0, none⟩)) := cell_of_block hL2 0
      have m1 : w2.cell? ⟨w.heap.size, 1, none⟩ = some (.int .i64 size) := cell_of_block hL2 1
      have hs2 := hb2.size
      have hs2' : wr.heap.size ≤ w2.heap.size := hs2
      have hD2 : AnyAt w2 dj (homeTo S size l (ks.take j)) (fun i => F i ∨ (w1.heap.size ≤ i ∧ i < w2.heap.size)) := ((hD.out.below (w' := wr.drew) (Below.refl _ _).drew).below hb2).later (w1 := wr) hs2'
      have hby2 : bytesAt w2 ad (l x) := fun q hq => hK2.cell ((HB1.out.cell (World.block_lt_of_cell? w _ (HBy.out q hq))).trans (HBy.out q hq)) (by rw [add_block]; exact HNf.out)
      have hwr := at_write dj (homeTo S size l (ks.take j)) (fun i => F i ∨ (w1.heap.size ≤ i ∧ i < w2.heap.size)) (1 + (size : Int) + x) (l x) ad pc w2 hD2 (by rw [HFaj.out.2, List.length_take]; omega) (by omega) (by rw [HFaj.out.1]; omega) H5.out hby2
      rw [hp.out] at hwr
      have HWr := hid hwr
      have HK2 := hid hK2
      clear hb2 hL2 hwr hby2 hD2 hK2
      go_wp2_with fail
      refine hKK.out _ _ ⟨m0, m1, HLk.out w2 HK2.out⟩ (fun hHeld => ?_)
      clear hKK K
      try simp only [List.getElem_toArray, List.getElem_cons_succ, List.getElem_cons_zero, Act.put, List.setIfInBounds_toArray, List.set_cons_zero, List.set_cons_succ]
      refine wpAnyH_ready (rs := [8]) (by kernel_rfl) (by simp) (AllReadyH.cons rfl (fun K hKK => ?_) AllReadyH.nil)
      rw [if_pos (by rfl)]
      go_simp
      refine HWr.out.mono ?_
      clear HWr
      rintro e w3 ⟨rfl, d3, e3, hA3, hK3⟩
      have hK13 : Keeps F w1 w3 := HK2.out.trans hK3 (fun i hi => hi.imp id (fun h => h.1))
      have hL3 := hK13.heap HL1.out HFw.out
      have HD3 := hid (hA3.next (w := w1) (w1 := w2) HK2.out.size hK3.size)
      rw [← HSn.out] at HD3
      have HK13 := hid hK13
      have HE3 : Hid (d3.p = d.p) := e3
      have n0 : w3.cell? ⟨w.heap.size, 0, none⟩ = some (.pointer (some ⟨d.p, 0, none⟩)) := cell_of_block hL3 0
      have n1 : w3.cell? ⟨w.heap.size, 1, none⟩ = some (.int .i64 size) := cell_of_block hL3 1
      clear hA3 hK3 hK13 hL3 e3
      go_wp2_with fail
      refine hKK.out _ _ ⟨n0, n1, HLk.out w3 HK13.out⟩ (fun hHeld => ?_)
      clear hKK K
      refine wpAnyH_done (by kernel_rfl) ?_ _
      refine NoPanic.normal ?_
      go_wp2
      exact ⟨⟨j + 1, d3, by omega, by go_num, HE3, HD3, HK13⟩, by simp [intOf]; omega⟩
    · obtain rfl : j = ks.length := by omega
      have hge : ¬ ((ks.length : Int) < (ks.length : Int)) := by omega
      have hDk := hD.out
      rw [List.take_length] at hDk
      have HFaK := hid (HFa.out ks)
      have hfl := at_flush dj (homeTo S size l ks) _ wr hDk (by rw [HFaK.out.2]; omega)
      rw [hp.out] at hfl
      have HFls := hid hfl
      clear hfl hDk
      go_wp2_with fail
      refine HFls.out.mono ?_
      clear HFls
      rintro e w2 ⟨rfl, d2, e2, hA2, hK2⟩
      have hK12 : Keeps F w1 w2 := hK.out.trans hK2 (fun i hi => hi.imp id (fun h => h.1))
      have HD2 := hid (hA2.next (w := w1) (w1 := wr) hK.out.size hK2.size)
      have hL2 := hK12.heap HL1.out HFw.out
      have HK12 := hid hK12
      have HE2 : Hid (d2.p = d.p) := e2
      have m0 : w2.cell? ⟨w.heap.size, 0, none⟩ = some (.pointer (some ⟨d.p, 0, none⟩)) := cell_of_block hL2 0
      clear hA2 hK2 hK12 hL2 e2 l0 l1
      have HHd := hid (head_of [] none 0 w2.drew (fun j hj => by simp at hj) (by decide) (fun n hn => by cases hn))
      have hlh : (headS []).length = 512 := length_headTo [] 0 (by decide) (by decide)
      have HLh := hid hlh
      clear hlh
      generalize headS [] = HS0 at *
      go_wp2
      refine wp_region_noPanic ?_
      refine wp_region_held_drew (S := fun W => W.cell? ⟨w.heap.size, 0, none⟩ = some (.pointer (some ⟨d.p, 0, none⟩))) (by kernel_rfl) m0 (fun hHeld => ?_)
      refine wpAnyH_take (i := 0) (v := ?_) rfl (by kernel_rfl) (by kernel_rfl) (by kernel_rfl) (fun _ _ _ h => h) (Or.inl ⟨by rfl, ?_⟩) (by assumption) ?_
      rotate_left
      · (intro W hSw; (try dsimp only at hSw); go_simp; try with_reducible rfl)
      try simp only [List.getElem_toArray, List.getElem_cons_zero, Act.put, List.setIfInBounds_toArray, List.set_cons_zero, List.set_cons_succ]
      refine wpAnyH_take (i := 1) (v := ?_) rfl (by kernel_rfl) (by kernel_rfl) (by kernel_rfl) (fun _ _ _ h => h) (Or.inl ⟨by rfl, ?_⟩) (by assumption) ?_
      rotate_left
      · (intro W hSw; (try dsimp only at hSw); go_simp; try with_reducible rfl)
      try simp only [List.getElem_toArray, List.getElem_cons_succ, List.getElem_cons_zero, Act.put, List.setIfInBounds_toArray, List.set_cons_zero, List.set_cons_succ]
      refine wpAnyH_ready (rs := [2]) (by kernel_rfl) (by simp) (AllReadyH.cons rfl (fun K hKK => ?_) AllReadyH.nil)
      rw [if_pos (by rfl)]
      go_simp
      refine HHd.out.mono ?_
      clear HHd
      rintro e w3 ⟨hb, rfl, hhb, hob, hb3⟩
      have hK3 : Keeps F w1 w3 := HK12.out.drew.andBelow hb3
      have hL3 := hK3.heap HL1.out HFw.out
      have n0 : w3.cell? ⟨w.heap.size, 0, none⟩ = some (.pointer (some ⟨d.p, 0, none⟩)) := cell_of_block hL3 0
      have hs3 : w2.heap.size ≤ w3.heap.size := hb3.size
      have hD3 := ((HD2.out.below (w' := w2.drew) (Below.refl _ _).drew).below hb3).later (w1 := w2) hs3
      have hwr := at_write d2 _ _ 0 HS0 ⟨hb, 0, none⟩ 512 w3 hD3 (by simp only [DiskS.flushed, List.length_append, List.length_singleton]; rw [HFaK.out.2]; omega) (by omega) (by show (0 : Int) < ((imgS _).length : Nat); rw [length_imgS, HFaK.out.1]; omega) HLh.out hob.at
      rw [HE2.out] at hwr
      have HWr := hid hwr
      have HK3 := hid hK3
      clear hb3 hL3 hwr hD3 hK3 hob hhb
      go_wp2_with fail
      refine hKK.out _ _ n0 (fun hHeld => ?_)
      clear hKK K
      try simp only [List.getElem_toArray, List.getElem_cons_succ, List.getElem_cons_zero, Act.put, List.setIfInBounds_toArray, List.set_cons_zero, List.set_cons_succ]
      refine wpAnyH_ready (rs := [3]) (by kernel_rfl) (by simp) (AllReadyH.cons rfl (fun K hKK => ?_) AllReadyH.nil)
      rw [if_pos (by rfl)]
      go_simp
      refine HWr.out.mono ?_
      clear HWr
      rintro e w4 ⟨rfl, d4, e4, hA4, hK4⟩
      have hK14 : Keeps F w1 w4 := HK3.out.trans hK4 (fun i hi => hi.imp id (fun h => h.1))
      have hL4 := hK14.heap HL1.out HFw.out
      have q0 : w4.cell? ⟨w.heap.size, 0, none⟩ = some (.pointer (some ⟨d.p, 0, none⟩)) := cell_of_block hL4 0
      have hD4 := hA4.next (w := w1) (w1 := w3) HK3.out.size hK4.size
      have hfl := at_flush d4 _ _ w4 hD4 (by simp only [DiskS.wrote, DiskS.flushed, List.length_append, List.length_singleton]; rw [HFaK.out.2]; omega)
      rw [e4] at hfl
      have HFls := hid hfl
      have HK14 := hid hK14
      clear hA4 hK4 hK14 hL4 hD4 hfl e4
      go_wp2_with fail
      refine hKK.out _ _ q0 (fun hHeld => ?_)
      clear hKK K
      refine wpAnyH_done (by kernel_rfl) ?_ _
      refine NoPanic.normal ?_
      go_wp2_with fail
      refine HFls.out.mono ?_
      clear HFls
      rintro e w5 ⟨rfl, d5, e5, hA5, hK5⟩
      have hK15 : Keeps F w1 w5 := HK14.out.trans hK5 (fun i hi => hi.imp id (fun h => h.1))
      have HD5 := hid (hA5.next (w := w1) (w1 := w4) HK14.out.size hK5.size)
      have HK15 := hid hK15
      have HE5 := hid e5
      clear hA5 hK5 hK15 e5
      go_wp2
      go_returns
      refine ⟨rfl, d5, HE5.out, ?_, (Keeps.of_below HB1.out).trans HK15.out (fun i hi => .inl hi)⟩
      rw [HKs.out, HHs.out]
      have hs01 := HB1.out.size
      exact HD5.out.mono (fun i hi => hi.imp id (fun h => ⟨by omega, h.2⟩))
end Go.Proofs.YtoeiodiadanhkaaGreat
