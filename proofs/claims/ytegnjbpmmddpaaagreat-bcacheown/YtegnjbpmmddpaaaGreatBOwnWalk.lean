/- The walk of BcacheOwn. -/
import Derived.Test.YtegnjbpmmddpaaaGreatBErr
import Derived.Test.YtegnjbpmmddpaaaGreatBLive
import Derived.Test.YtegnjbpmmddpaaaGreatKeepB
namespace Go.Proofs.YtegnjbpmmddpaaaGreat
open Go.RowKit
section
variable {w w' : World} {c : Nat} {L : CLay} {C : CS}
/-- A cache stays when a block of bytes that is not its own is written. -/
theorem CacheAt.keepB (h : CacheAt w c L C) {g : Nat} {l : List UInt8} (hg : ownB w g l) (hF : ¬ L.F g) (hd : ∀ n g' cap, L.dv n = some (.slice (some ⟨g', 0, none⟩) 512 cap) → g' ≠ g) (k : Keeps (fun i => i = g) w w') : CacheAt w' c L C := by
  obtain ⟨es, kk, hm⟩ := h.dmap
  obtain ⟨es', kk', hu⟩ := h.umap
  have hmap : ∀ m e k0, w.heap[m]? = some (.map e k0) → m ≠ g := fun m e k0 hm e1 => by
    subst e1
    rw [show w.heap[m]? = _ from hg] at hm
    cases hm
  exact {
    heap := k.heap h.heap (fun e => by
      have e1 : c = g := e
      have h1 := h.heap
      rw [e1, show w.heap[g]? = _ from hg] at h1
      simp only [Option.some.injEq, Obj.cells.injEq] at h1
      exact absurd h1.2.1 (by decide))
    log := h.log.keepB hg hF k
    lt := fun i hi => Nat.lt_of_lt_of_le (h.lt i hi) k.size
    dirty := h.dirty.keep k (hmap _ _ _ hm)
    bytes := fun n v hv => by
      obtain ⟨g', cap, bs, h1, h2, h3, h4, h5⟩ := h.bytes n v hv
      subst h2
      exact ⟨g', cap, bs, h1, rfl, fun j hj => k.cell (h3 j hj) (by rw [add_block]; exact hd n g' cap hv), h4, h5⟩
    clean := h.clean
    used := h.used.keep k (hmap _ _ _ hu)
    offc := h.offc
    offd := h.offd
    offu := h.offu
    ne := h.ne
    pages := h.pages
    fits := h.fits
    few := h.few
    ub := h.ub }
set_option maxRecDepth 100000 in
set_option maxHeartbeats 1000000 in
/-- Read of a page that was written: the bytes are the caller's. -/
theorem bread_dirty (n : Int) (hn0 : -9223372036854775808 ≤ n) (hn1 : n < 9223372036854775808) (bs : List UInt8) (w : World) (h : CacheAt w c L C) (hd : C.dirty n = some bs) (hl : bs.length = 512) :
    Calls Tryz.prog 27 #[.pointer (some ⟨c, 0, none⟩), .int .i64 n] w fun e w' => ∃ g cap, e = .returned (.tuple #[.slice (some ⟨g, 0, none⟩) 512 cap, .int .i64 0]) ∧ w'.ownsRow w.heap.size 5 1 (.slice (some ⟨g, 0, none⟩) 512 cap) 512 (bs.map U8) ∧ Below w.heap.size w w' := by
  obtain ⟨c0, c1, -, -, -⟩ := h.cells
  have H := hid h
  cases hdv : L.dv n with
  | none => rw [h.clean n hdv] at hd; cases hd
  | some v =>
    obtain ⟨g0, cap0, bs', h1, rfl, h3, h4, h5⟩ := h.bytes n v hdv
    rw [hd] at h1
    obtain rfl := Option.some.inj h1
    have HDv := hid hdv
    have hcl := bclone_any bs ⟨g0, 0, none⟩ cap0 w (by omega) (by omega) h3
    rw [h4] at hcl
    have HCl := hid hcl
    clear h hd hdv h1 h3 h4 h5 hcl hl
    go_enter Tryz.func27, Tryz.ntmps27
    go_wp2_with (refine wpList_lookup_grp rfl (.tmp 16) (.tmp 17) 81 rfl 49 Tryz.underlying81 (Tryz.zeroValue49 _) rfl H.out.dirty n rfl hn0 hn1 (.slice (some ⟨g0, 0, none⟩) 512 cap0) true (by rw [HDv.out]; rfl) (by rw [HDv.out]; rfl) ?_)
    refine HCl.out.mono ?_
    clear HCl
    rintro e w1 ⟨g, cap, rfl, hrow, hb⟩
    have HB := hid hb
    have HR := hid hrow
    clear hb hrow
    go_wp2
    go_returns
    exact ⟨g, cap, rfl, HR.out, HB.out⟩
end
theorem madeN512 (n : Nat) : madeCells (Value.int .u8 0).cells (n * 1) = ((zN n).map U8).toArray := by
  rw [← rep_U8]
  apply Array.ext
  · simp [madeCells]
  · intro i h1 h2
    simp [madeCells, Value.cells, Nat.mod_one]
theorem infoU8b : (Tryz.prog.info? 5).map (fun i => (i.zero, i.size, i.bytes)) = some (some (.int .u8 0), 1, 1) := by kernel_rfl
theorem run_mk512 (w : World) : (Instr.makeSlice 49 (.int .i64 512) (.int .i64 512)).run Tryz.prog w = .ok (.slice (some ⟨w.heap.size, 0, none⟩) 512 512) (w.alloc (.cells ((zN 512).map U8).toArray 5)) := by
  obtain ⟨i, hi, hz, hs, hb⟩ := info_parts infoU8b
  have hrun := run_make (P := Tryz.prog) w 49 5 i (.int .u8 0) Tryz.underlying49 hi hz .i64 .i64 512 512 (by omega) (by omega) (by rw [hb]; omega) (by omega)
  simp only [hs] at hrun
  have e : madeCells (Value.int .u8 0).cells (Int.toNat 512 * 1) = ((zN 512).map U8).toArray := madeN512 512
  rw [e] at hrun
  exact hrun
set_option maxRecDepth 100000 in
set_option maxHeartbeats 4000000 in
theorem bcacheOwn_walk (kd pg : Int) (hp0 : -9223372036854775808 ≤ pg) (hp1 : pg < 9223372036854775808) (x : UInt8) (s : Bool) (w : World) :
    Calls Tryz.prog 7 #[.agg #[.int .i64 kd, .int .i64 pg, .int .u8 (x.toNat : Int), .bool s]] w fun e w' => e = .returned (.bool true) ∧ Below w.heap.size w w' := by
  have HP0 := hid hp0
  have HP1 := hid hp1
  clear hp0 hp1
  have HB0 := hid ((Below.refl w.heap.size w).alloc (Nat.le_refl _) (.cells #[.int .i64 kd, .int .i64 pg, .int .u8 (x.toNat : Int), .bool s] 30))
  have Hb0 := hid (block_new w (.cells #[.int .i64 kd, .int .i64 pg, .int .u8 (x.toNat : Int), .bool s] 30))
  obtain ⟨wA, hA⟩ : ∃ wA, wA = w.alloc (.cells #[.int .i64 kd, .int .i64 pg, .int .u8 (x.toNat : Int), .bool s] 30) := ⟨_, rfl⟩
  have hsA : wA.heap.size = w.heap.size + 1 := by rw [hA]; simp
  rw [← hA] at HB0 Hb0
  go_enter Tryz.func7, Tryz.ntmps7
  go_upto_region 1 with (fail)
  rw [← hA]
  clear hA
  obtain ⟨D0, hD0⟩ : ∃ D0, D0 = w.heap.size := ⟨_, rfl⟩
  have hD0l : D0 < wA.heap.size := by omega
  rw [← hD0] at Hb0 ⊢
  have HSw : Hid (w.heap.size ≤ wA.heap.size) := by unfold Hid; omega
  clear hD0 hsA
  go_wp2_with fail
  refine (b4open_ok 10 4 (by omega) (by omega) (by omega) (by omega) wA).mono ?_
  rintro e w1 ⟨hb1, c, L1, q, m, r, fv, Rd, rfl, hc, hdv, hft, hC1, -, -, -, -⟩
  have hlen : (freshN (10 + 12)).safe.length = 22 := freshN_len _
  have hM : Made (freshN (10 + 12)) := made_fresh _ (by simp) (fun s hs => by rw [List.eq_of_mem_replicate hs]; exact blank_size)
  have hze : ∀ n : Nat, n < 22 → secL (freshN (10 + 12)) n = zN 512 := fun n hn => by rw [secL, freshN_seen _ n hn]; rfl
  have hpg : pagesS (freshN (10 + 12)) 10 = 11 := by unfold pagesS; rw [hlen]
  rw [hpg] at hC1
  generalize freshN (10 + 12) = S0 at *
  have HM := hid hM
  have HZ := hid hze
  have H1 := hid hC1
  have HB1 := hid hb1
  have HFt := hid hft
  have HDv := hid hdv
  have HLv := hid (b4live_any w1)
  clear hb1 hft hC1 hlen hM hze hpg hdv
  go_wp2_with fail
  refine HLv.out.mono ?_
  clear HLv
  rintro e w2 ⟨rfl, hb2⟩
  have H2 := hid (H1.out.below hb2)
  have HB2 := hid (HB1.out.trans (hb2.mono HB1.out.size))
  have HD2 := hid (below_block HB2.out Hb0.out hD0l)
  have hs2 := HB2.out.size
  clear hb2 H1 HB1
  have e2 : ∀ W, Below w2.heap.size w2 W → W.cell? ⟨D0, 1, none⟩ = some (.int .i64 pg) := fun W hW => cell_of_block (below_block hW HD2.out (lt_of_heap HD2.out)) 1
  have HE2 := hid e2
  clear e2
  have HBy := hid (b4bytes_any s kd pg x w2)
  have d0 : w2.cell? ⟨D0, 0, none⟩ = some (.int .i64 kd) := cell_of_block HD2.out 0
  have d1 : w2.cell? ⟨D0, 1, none⟩ = some (.int .i64 pg) := cell_of_block HD2.out 1
  have d2 : w2.cell? ⟨D0, 2, none⟩ = some (.int .u8 (x.toNat : Int)) := cell_of_block HD2.out 2
  have d3 : w2.cell? ⟨D0, 3, none⟩ = some (.bool s) := cell_of_block HD2.out 3
  go_wp2_with fail
  refine HBy.out.mono ?_
  clear HBy d0 d1 d2 d3
  rintro e w3 ⟨hb3, rfl, hby3⟩
  obtain ⟨g0, hg0⟩ : ∃ g0, g0 = w2.heap.size + 1 := ⟨_, rfl⟩
  rw [← hg0] at hby3 ⊢
  have HB3 := hid hb3
  have HBy3 := hid hby3
  have d1 := HE2.out w3 hb3
  have hg2 : w2.heap.size ≤ g0 := by omega
  clear hb3 hby3 hg0
  by_cases hin : 0 ≤ pg ∧ pg < 11
  rotate_left
  · -- no such page
    have HW := hid (bwrite_range pg (.slice (some ⟨g0, 0, none⟩) (dlen s) (dlen s)) w3 (H2.out.below HB3.out) hin)
    have HN : Hid (dlen s ≤ 512) := by unfold Hid dlen; split <;> omega
    have HL4 : Hid ((dbytes s x).length = dlen s) := length_dbytes _ _
    generalize dlen s = N at *
    have hN := HN.out
    go_wp2_with fail
    refine HW.out.mono ?_
    clear HW
    rintro e w4 ⟨rfl, hb4⟩
    have HOw4 := hid (HBy3.out.below hb4)
    have HB4 := hid (HB3.out.trans (hb4.mono HB3.out.size))
    clear hb4 d1
    go_wp2
    go_loopw [8] (fun i wr => ∃ k : Nat, k ≤ N ∧ i = .int .i64 k ∧ Hid (∃ l' : List UInt8, l'.length = N ∧ ownB wr g0 l') ∧ Hid (Keeps (fun i => i = g0) w4 wr)) (fun i _ => N - (intOf i).toNat)
    case atStart => exact ⟨0, by omega, rfl, ⟨_, HL4.out, HOw4.out⟩, Keeps.refl _ _⟩
    case round =>
      obtain ⟨k, hk, rfl, hOw, hKi⟩ := hrel
      by_cases hlt : k < N
      · have hk0 : (0 : Int) ≤ (k : Int) := by omega
        have hk1 : (k : Int) < N := by omega
        obtain ⟨l', hl', ho'⟩ := hOw.out
        obtain ⟨old, cl⟩ : ∃ v, wr.cell? ⟨g0, k, none⟩ = some v := ⟨_, ho'.cell k (by omega)⟩
        have fl := ho'.frozen k
        have HSt : Hid (∃ l' : List UInt8, l'.length = N ∧ ownB (wr.setCell ⟨g0, k, none⟩ (.int .u8 77)) g0 l') := ⟨l'.set k 77, by simp [hl'], ho'.set k 77⟩
        clear hl' ho' hOw
        go_wp2
        exact ⟨⟨k + 1, by omega, by go_num, HSt, hKi.out.grown (grown_setCell (grown_refl _ _) _ _) (fun i e => .inl (Option.some.inj e).symm)⟩, by simp [intOf]; omega⟩
      · have hge : ¬ ((k : Int) < N) := by omega
        have HBr := hid (HB4.out.trans (hKi.out.below HB4.out.size (fun i e => by rw [e]; exact hg2)))
        have d1 := HE2.out wr HBr.out
        have HRd := hid (bread_any pg HP0.out HP1.out wr (H2.out.below HBr.out) HM.out (show (0 : Nat) < 1000000 by omega))
        clear hOw hKi HOw4 HL4 HB4
        go_wp2_with fail
        refine HRd.out.mono ?_
        clear HRd
        rintro e w5 (⟨-, -, rfl, hb5⟩ | ⟨bs, h, -⟩ | ⟨h1, h2, -⟩)
        · have HBz : Hid (Below w.heap.size w w5) := by
            have h2 := HB0.out.trans (HB2.out.mono HSw.out)
            have h3 := h2.trans (HBr.out.mono h2.size)
            exact h3.trans (hb5.mono h3.size)
          clear hb5
          go_wp2
          go_ret
          exact ⟨rfl, HBz.out⟩
        · cases h
        · exact absurd ⟨h1, h2⟩ hin
  obtain ⟨hin0, hin1⟩ := hin
  obtain ⟨n, rfl⟩ : ∃ n : Nat, pg = (n : Int) := ⟨pg.toNat, by omega⟩
  have hn : n < 11 := by omega
  clear hin0 hin1
  cases s with
  | true =>
    have HW := hid (bwrite_form n (some ⟨g0, 0, none⟩) 511 511 w3 (H2.out.below HB3.out) hn (by omega))
    have HL4 : Hid ((dbytes true x).length = 511) := length_dbytes _ _
    have e511 : dlen true = 511 := rfl
    rw [e511]
    go_wp2_with fail
    refine HW.out.mono ?_
    clear HW
    rintro e w4 ⟨rfl, hb4⟩
    have HOw4 := hid (HBy3.out.below hb4)
    have HB4 := hid (HB3.out.trans (hb4.mono HB3.out.size))
    clear hb4 d1 e511
    go_wp2
    go_loopw [8] (fun i wr => ∃ k : Nat, k ≤ 511 ∧ i = .int .i64 k ∧ Hid (∃ l' : List UInt8, l'.length = 511 ∧ ownB wr g0 l') ∧ Hid (Keeps (fun i => i = g0) w4 wr)) (fun i _ => 511 - (intOf i).toNat)
    case atStart => exact ⟨0, by omega, rfl, ⟨_, HL4.out, HOw4.out⟩, Keeps.refl _ _⟩
    case round =>
      obtain ⟨k, hk, rfl, hOw, hKi⟩ := hrel
      by_cases hlt : k < 511
      · have hk0 : (0 : Int) ≤ (k : Int) := by omega
        have hk1 : (k : Int) < 511 := by omega
        obtain ⟨l', hl', ho'⟩ := hOw.out
        obtain ⟨old, cl⟩ : ∃ v, wr.cell? ⟨g0, k, none⟩ = some v := ⟨_, ho'.cell k (by omega)⟩
        have fl := ho'.frozen k
        have HSt : Hid (∃ l' : List UInt8, l'.length = 511 ∧ ownB (wr.setCell ⟨g0, k, none⟩ (.int .u8 77)) g0 l') := ⟨l'.set k 77, by simp [hl'], ho'.set k 77⟩
        clear hl' ho' hOw
        go_wp2
        exact ⟨⟨k + 1, by omega, by go_num, HSt, hKi.out.grown (grown_setCell (grown_refl _ _) _ _) (fun i e => .inl (Option.some.inj e).symm)⟩, by simp [intOf]; omega⟩
      · have hge : ¬ ((k : Int) < 511) := by omega
        have HBr := hid (HB4.out.trans (hKi.out.below HB4.out.size (fun i e => by rw [e]; exact hg2)))
        have d1 := HE2.out wr HBr.out
        have HRd := hid (bread_any (n : Int) HP0.out HP1.out wr (H2.out.below HBr.out) HM.out (show (0 : Nat) < 1000000 by omega))
        clear hOw hKi HOw4 HL4 HB4
        go_wp2_with fail
        refine HRd.out.mono ?_
        clear HRd
        rintro e w5 (⟨h, -⟩ | ⟨bs, h, -⟩ | ⟨h1, h2, -, g5, cap5, rfl, hg5, hby5, u5, D5, -, -, hK5⟩)
        · exact absurd (show (0 : Int) ≤ (n : Int) ∧ (n : Int) < ((11 : Nat) : Int) by omega) h
        · cases h
        · have hby5' : bytesAt w5 ⟨g5, 0, none⟩ (secL S0 (1 + 10 + (n : Int).toNat)) := hby5
          rw [HZ.out _ (by omega)] at hby5'
          obtain ⟨Z, hZ⟩ : ∃ Z, Z = ((zN 512).map U8).toArray := ⟨_, rfl⟩
          have hmk := run_mk512 w5
          rw [← hZ] at hmk
          have hbn : Below w5.heap.size w5 (w5.alloc (.cells Z 5)) := (Below.refl _ w5).alloc (Nat.le_refl _) _
          have hSm := same_bytes (zN 512) (zN 512) (some ⟨g5, 0, none⟩) (some ⟨w5.heap.size, 0, none⟩) cap5 512 (w5.alloc (.cells Z 5)) ((bytesIn_of_at hby5').below hbn) (bytesIn_of_at (ownB.at (by unfold ownB; rw [hZ]; exact block_new w5 _))) (by rw [length_zN]; omega)
          rw [length_zN, decide_eq_true rfl] at hSm
          have HSm := hid hSm
          have HBz : Hid (Below w.heap.size w (w5.alloc (.cells Z 5))) := by
            have h2 := HB0.out.trans (HB2.out.mono HSw.out)
            have h3 := h2.trans (HBr.out.mono h2.size)
            have h4 := h3.trans (hK5.below h3.size (fun i hi => Nat.le_trans HSw.out (HFt.out i (hi.elim (fun e => .inr (.inl e)) (fun e => .inr (.inr (.inr e)))))))
            exact h4.trans (hbn.mono h4.size)
          clear hby5 hby5' hK5 hbn hSm hZ h1 h2
          go_wp2_with fail
          refine HSm.out.mono ?_
          clear HSm
          rintro e w6 ⟨rfl, hb6⟩
          have HB6 := hid (HBz.out.trans (hb6.mono HBz.out.size))
          clear hb6
          go_wp2
          go_ret
          exact ⟨rfl, HB6.out⟩
  | false =>
    have hl : (dbytes false x).length = 512 := length_dbytes _ _
    have HW := hid (bwrite_ok n (dbytes false x) ⟨g0, 0, none⟩ 512 w3 (H2.out.below HB3.out) hn hl HBy3.out.at (.inr (by rw [CS.dirtyKeys_none rfl]; show 0 < min 10 100; omega)))
    have HBk : Hid (∀ W, Calls Tryz.prog 30 #[.agg #[.int .i64 kd, .int .i64 (n : Int), .int .u8 (x.toNat : Int), .bool false]] W fun e w' => Below W.heap.size W w' ∧ e = .returned (.slice (some ⟨W.heap.size + 1, 0, none⟩) 512 512) ∧ ownB w' (W.heap.size + 1) (dbytes false x)) := fun W => b4bytes_any false kd n x W
    have e512 : dlen false = 512 := rfl
    rw [e512]
    generalize dbytes false x = l at *
    have HL4 := hid hl
    have hgl : g0 < w3.heap.size := HBy3.out.lt
    clear e512 hl
    go_wp2_with fail
    refine HW.out.mono ?_
    clear HW
    rintro e w4 ⟨rfl, g4, cap4, Dd4, Du4, hg4, hC4, hK4⟩
    obtain ⟨u4, hC4'⟩ : ∃ u4, CacheAt w4 c { L1 with dv := updV L1.dv ((n : Nat) : Int) (.slice (some ⟨g4, 0, none⟩) 512 cap4), Dd := Dd4, Du := Du4 } ⟨S0, 10, 11, updD (fun _ => none) ((n : Nat) : Int) l, 4, 0, u4⟩ := ⟨_, hC4⟩
    obtain ⟨es, kk, hdm⟩ := H2.out.dmap
    obtain ⟨es', kk', hum⟩ := H2.out.umap
    have hdml := lt_of_heap hdm
    have huml := lt_of_heap hum
    have HOw4 := hid (HBy3.out.keep hK4 (fun e => e.elim (fun e => by omega) (fun e => by omega)))
    have HD4 := hid (hK4.heap (below_block HB3.out HD2.out (lt_of_heap HD2.out)) (fun e => by
      have hh := HD2.out
      rcases e with e | e
      · rw [e, hdm] at hh; cases hh
      · rw [e, hum] at hh; cases hh))
    have hDv4 : ∀ k g' cap, ({ L1 with dv := updV L1.dv ((n : Nat) : Int) (.slice (some ⟨g4, 0, none⟩) 512 cap4), Dd := Dd4, Du := Du4 } : CLay).dv k = some (.slice (some ⟨g', 0, none⟩) 512 cap) → g' ≠ g0 := fun k g' cap h => by
      simp only [updV, HDv.out] at h
      split at h
      · simp only [Option.some.injEq, Value.slice.injEq, Addr.mk.injEq] at h
        omega
      · cases h
    have hFg : ¬ L1.F g0 := fun h => by have := H2.out.lt _ h; omega
    have HCk : Hid (∀ W, Keeps (fun i => i = g0) w4 W → CacheAt W c { L1 with dv := updV L1.dv ((n : Nat) : Int) (.slice (some ⟨g4, 0, none⟩) 512 cap4), Dd := Dd4, Du := Du4 } ⟨S0, 10, 11, updD (fun _ => none) ((n : Nat) : Int) l, 4, 0, u4⟩) := fun W hW => hC4'.keepB HOw4.out hFg hDv4 hW
    generalize ({ L1 with dv := updV L1.dv ((n : Nat) : Int) (.slice (some ⟨g4, 0, none⟩) 512 cap4), Dd := Dd4, Du := Du4 } : CLay) = L4 at *
    have HB4 : Hid (Below w.heap.size w w4) := by
      have h2 := HB0.out.trans (HB2.out.mono HSw.out)
      have h3 := h2.trans (HB3.out.mono h2.size)
      exact h3.trans (hK4.below h3.size (fun i hi => Nat.le_trans HSw.out (HFt.out i (hi.elim (fun e => .inr (.inr (.inl e))) (fun e => .inr (.inr (.inr e)))))))
    have hw2 : w.heap.size ≤ w2.heap.size := by have := HSw.out; omega
    clear hC4 hC4' hK4 hdm hum hDv4 hFg d1 hdml huml H2
    go_wp2
    go_loopw [8] (fun i wr => ∃ k : Nat, k ≤ 512 ∧ i = .int .i64 k ∧ Hid (∃ l' : List UInt8, l'.length = 512 ∧ ownB wr g0 l') ∧ Hid (Keeps (fun i => i = g0) w4 wr)) (fun i _ => 512 - (intOf i).toNat)
    case atStart => exact ⟨0, by omega, rfl, ⟨_, HL4.out, HOw4.out⟩, Keeps.refl _ _⟩
    case round =>
      obtain ⟨k, hk, rfl, hOw, hKi⟩ := hrel
      by_cases hlt : k < 512
      · have hk0 : (0 : Int) ≤ (k : Int) := by omega
        have hk1 : (k : Int) < 512 := by omega
        obtain ⟨l', hl', ho'⟩ := hOw.out
        obtain ⟨old, cl⟩ : ∃ v, wr.cell? ⟨g0, k, none⟩ = some v := ⟨_, ho'.cell k (by omega)⟩
        have fl := ho'.frozen k
        have HSt : Hid (∃ l' : List UInt8, l'.length = 512 ∧ ownB (wr.setCell ⟨g0, k, none⟩ (.int .u8 77)) g0 l') := ⟨l'.set k 77, by simp [hl'], ho'.set k 77⟩
        clear hl' ho' hOw
        go_wp2
        exact ⟨⟨k + 1, by omega, by go_num, HSt, hKi.out.grown (grown_setCell (grown_refl _ _) _ _) (fun i e => .inl (Option.some.inj e).symm)⟩, by simp [intOf]; omega⟩
      · have hge : ¬ ((k : Int) < 512) := by omega
        have H5 := hid (HCk.out wr hKi.out)
        have hDr := hKi.out.heap HD4.out (fun e => by have := lt_of_heap HD2.out; omega)
        have HDr := hid hDr
        have d1 : wr.cell? ⟨D0, 1, none⟩ = some (.int .i64 (n : Int)) := cell_of_block hDr 1
        have HBr := hid (HB4.out.trans (hKi.out.below HB4.out.size (fun i e => by rw [e]; omega)))
        have HRd := hid (bread_dirty (n : Int) HP0.out HP1.out l wr H5.out (by simp [updD]) HL4.out)
        clear hOw hKi HOw4 HB4 hDr HCk HD4
        go_wp2_with fail
        refine HRd.out.mono ?_
        clear HRd
        rintro e w5 ⟨g5, cap5, rfl, hrow5, hb5⟩
        have hD5 := below_block hb5 HDr.out (lt_of_heap HDr.out)
        have a0 : w5.cell? ⟨D0, 0, none⟩ = some (.int .i64 kd) := cell_of_block hD5 0
        have a1 : w5.cell? ⟨D0, 1, none⟩ = some (.int .i64 (n : Int)) := cell_of_block hD5 1
        have a2 : w5.cell? ⟨D0, 2, none⟩ = some (.int .u8 (x.toNat : Int)) := cell_of_block hD5 2
        have a3 : w5.cell? ⟨D0, 3, none⟩ = some (.bool false) := cell_of_block hD5 3
        have hg5 := (hrow5.lt g5 rfl).1
        have HR5 := hid hrow5
        have HB5 := hid hb5
        have HBk5 := hid (HBk.out w5)
        clear hrow5 hb5 hD5 d1
        go_wp2_with fail
        refine HBk5.out.mono ?_
        clear HBk5 a0 a1 a2 a3
        rintro e w6 ⟨hb6, rfl, hby6⟩
        obtain ⟨b6, hb6e⟩ : ∃ b6, b6 = w5.heap.size + 1 := ⟨_, rfl⟩
        rw [← hb6e] at hby6 ⊢
        have hSm := same_bytes l l (some ⟨g5, 0, none⟩) (some ⟨b6, 0, none⟩) cap5 512 w6 ((bytesIn_of_at (row_bytesAt HR5.out HL4.out)).below hb6) (bytesIn_of_at hby6.at) (by rw [HL4.out]; omega)
        rw [HL4.out, decide_eq_true rfl] at hSm
        have HSm := hid hSm
        have HB6 := hid (HB5.out.trans (hb6.mono HB5.out.size))
        have HR6 := hid ((Keeps.of_below (F := fun _ => False) hb6).row HR5.out (fun _ _ e => e))
        clear hb6 hby6 hSm hb6e HR5
        go_wp2_with fail
        refine HSm.out.mono ?_
        clear HSm
        rintro e w7 ⟨rfl, hb7⟩
        have HB7 := hid (HB6.out.trans (hb7.mono HB6.out.size))
        have HR7 := hid ((Keeps.of_below (F := fun _ => False) hb7).row HR6.out (fun _ _ e => e))
        clear hb7 HR6 HB6 HB5
        obtain ⟨B5, hB5⟩ : ∃ B5, B5 = wr.heap.size := ⟨_, rfl⟩
        have HCf : Hid (∀ W, Below B5 w7 W → CacheAt W c L4 ⟨S0, 10, 11, updD (fun _ => none) ((n : Nat) : Int) l, 4, 0, u4⟩ ∧ W.heap[D0]? = some (.cells #[.int .i64 kd, .int .i64 (n : Int), .int .u8 (x.toNat : Int), .bool false] 30 (0, 0))) := fun W hW => by
          rw [hB5] at hW
          have hb := HB7.out.trans hW
          exact ⟨H5.out.below hb, below_block hb HDr.out (lt_of_heap HDr.out)⟩
        have HBw7 := hid (HBr.out.trans (HB7.out.mono HBr.out.size))
        have hs7 : B5 ≤ w7.heap.size := by rw [hB5]; exact HB7.out.size
        have hwB : w.heap.size ≤ B5 := by rw [hB5]; exact HBr.out.size
        rw [← hB5] at HR7 hg5
        clear HB7 hB5 H5 HDr HBr
        go_wp2
        go_loopw [11] (fun i wr => ∃ k : Nat, k ≤ 512 ∧ i = .int .i64 k ∧ Hid (∃ xs : List Value, xs.length = 512 ∧ wr.ownsRow B5 5 1 (.slice (some ⟨g5, 0, none⟩) 512 cap5) 512 xs) ∧ Hid (Keeps (fun i => i = g5) w7 wr)) (fun i _ => 512 - (intOf i).toNat)
        case atStart => exact ⟨0, by omega, rfl, ⟨_, by rw [List.length_map]; exact HL4.out, HR7.out⟩, Keeps.refl _ _⟩
        case round =>
          obtain ⟨k, hk, rfl, hOw, hKi⟩ := hrel
          by_cases hlt : k < 512
          · have hk0 : (0 : Int) ≤ (k : Int) := by omega
            have hk1 : (k : Int) < 512 := by omega
            obtain ⟨xs, hxs, ho'⟩ := hOw.out
            obtain ⟨old, cl⟩ : ∃ v, wr.cell? ⟨g5, k, none⟩ = some v := ⟨_, (ho'.cellAt k (by omega)).trans (List.getElem?_eq_getElem (by omega))⟩
            have fl : wr.frozen? ⟨g5, k, none⟩ = false := ho'.frozenAt k
            have HSt : Hid (∃ xs : List Value, xs.length = 512 ∧ (wr.setCell ⟨g5, k, none⟩ (.int .u8 78)).ownsRow B5 5 1 (.slice (some ⟨g5, 0, none⟩) 512 cap5) 512 xs) := ⟨_, by rw [List.length_set]; exact hxs, (World.ownsRow.stored ho' k (.int .u8 78)).1⟩
            clear hxs ho' hOw
            go_wp2
            exact ⟨⟨k + 1, by omega, by go_num, HSt, hKi.out.grown (grown_setCell (grown_refl _ _) _ _) (fun i e => .inl (Option.some.inj e).symm)⟩, by simp [intOf]; omega⟩
          · have hge : ¬ ((k : Int) < 512) := by omega
            have hb8 := hKi.out.below (K := B5) hs7 (fun i e => by rw [e]; exact hg5)
            obtain ⟨hC8, hD8⟩ := HCf.out wr hb8
            have d1 : wr.cell? ⟨D0, 1, none⟩ = some (.int .i64 (n : Int)) := cell_of_block hD8 1
            have HD8 := hid hD8
            have HB8 := hid (HBw7.out.trans (hb8.mono hwB))
            have HRd := hid (bread_dirty (n : Int) HP0.out HP1.out l wr hC8 (by simp [updD]) HL4.out)
            clear hb8 hC8 hD8 hOw hKi HCf HR7
            go_wp2_with fail
            refine HRd.out.mono ?_
            clear HRd
            rintro e w9 ⟨g9, cap9, rfl, hrow9, hb9⟩
            have hD9 := below_block hb9 HD8.out (lt_of_heap HD8.out)
            have a0 : w9.cell? ⟨D0, 0, none⟩ = some (.int .i64 kd) := cell_of_block hD9 0
            have a1 : w9.cell? ⟨D0, 1, none⟩ = some (.int .i64 (n : Int)) := cell_of_block hD9 1
            have a2 : w9.cell? ⟨D0, 2, none⟩ = some (.int .u8 (x.toNat : Int)) := cell_of_block hD9 2
            have a3 : w9.cell? ⟨D0, 3, none⟩ = some (.bool false) := cell_of_block hD9 3
            have HR9 := hid hrow9
            have HB9 := hid (HB8.out.trans (hb9.mono HB8.out.size))
            have HBk9 := hid (HBk.out w9)
            clear hrow9 hb9 hD9 d1
            go_wp2_with fail
            refine HBk9.out.mono ?_
            clear HBk9 a0 a1 a2 a3
            rintro e w10 ⟨hb10, rfl, hby10⟩
            obtain ⟨b10, hb10e⟩ : ∃ b10, b10 = w9.heap.size + 1 := ⟨_, rfl⟩
            rw [← hb10e] at hby10 ⊢
            have hSm := same_bytes l l (some ⟨g9, 0, none⟩) (some ⟨b10, 0, none⟩) cap9 512 w10 ((bytesIn_of_at (row_bytesAt HR9.out HL4.out)).below hb10) (bytesIn_of_at hby10.at) (by rw [HL4.out]; omega)
            rw [HL4.out, decide_eq_true rfl] at hSm
            have HSm := hid hSm
            have HB10 := hid (HB9.out.trans (hb10.mono HB9.out.size))
            clear hb10 hby10 hSm hb10e HR9
            go_wp2_with fail
            refine HSm.out.mono ?_
            clear HSm
            rintro e w11 ⟨rfl, hb11⟩
            have HB11 := hid (HB10.out.trans (hb11.mono HB10.out.size))
            clear hb11
            go_wp2
            go_ret
            exact ⟨rfl, HB11.out⟩
end Go.Proofs.YtegnjbpmmddpaaaGreat
