/- Two caches side by side: a cache stays when the other one is written. -/
import Derived.Test.YtjgclmlclkfgpaaGreatBCrashP
import Derived.Test.YtjgclmlclkfgpaaGreatKeepF
namespace Go.Proofs.YtjgclmlclkfgpaaGreat
open Go.RowKit Go.Maps
set_option maxRecDepth 100000 in
set_option maxHeartbeats 1000000 in
theorem bnew_two (p : Nat) (d : DL) (S : DiskS) (size : Nat) (F : Nat → Prop) (most : Nat) (hm1 : 1 ≤ most) (hm2 : most ≤ 64) (w : World) (h : LogIn w p d S size 0 F) (hF : ∀ i, F i → i < w.heap.size) (hs : size + 1 ≤ S.safe.length) :
    Calls Tryz.prog 38 #[.pointer (some ⟨p, 0, none⟩), .int .i64 most] w fun e w' => Below w.heap.size w w' ∧ ∃ c L, e = .returned (.tuple #[.pointer (some ⟨c, 0, none⟩), .int .i64 0]) ∧ w.heap.size ≤ c ∧ L.dv = (fun _ => none) ∧ L.F = F ∧ L.p = p ∧ L.d = d ∧ (∀ i, L.foot c i → F i ∨ w.heap.size ≤ i) ∧ CacheAt w' c L ⟨S, size, pagesS S size, fun _ => none, most, 0, fun _ => none⟩ := by
  have H := hid h
  have HF := hid hF
  clear h hF
  have k1 : (1 : Int) ≤ (most : Int) := by omega
  have k2 : (most : Int) ≤ 64 := by omega
  have hmk : ∀ W : World, (Instr.makeMap 80 none).run Tryz.prog W = .ok (.map (some W.heap.size)) (W.alloc (.map #[] 0)) := fun W => by kernel_rfl
  have hmk2 : ∀ W : World, (Instr.makeMap 81 none).run Tryz.prog W = .ok (.map (some W.heap.size)) (W.alloc (.map #[] 0)) := fun W => by kernel_rfl
  go_enter Tryz.func38, Tryz.ntmps38
  go_wp2
  go_returns
  obtain ⟨-, -, m3, -⟩ := new2 w (.map #[] 0) (.map #[] 0)
  have hB2 : Below w.heap.size w ((w.alloc (.map #[] 0)).alloc (.map #[] 0)) := m3
  have hB3 : Below w.heap.size w (((w.alloc (.map #[] 0)).alloc (.map #[] 0)).alloc (.cells #[.pointer (some ⟨p, 0, none⟩), .map (some w.heap.size), .int .i64 most, .int .i64 0, .map (some (w.heap.size + 1))] 85)) := hB2.alloc hB2.size _
  refine ⟨hB3, w.heap.size + 2, ⟨p, w.heap.size, w.heap.size + 1, d, .map [], .map [], fun _ => none, F⟩, ?_, by omega, rfl, rfl, rfl, rfl, ?_, ?_⟩
  · simp
  · rintro i (hi | hi | hi | hi)
    · exact .inl hi
    · exact .inr (by omega)
    · exact .inr (by simp only at hi; omega)
    · exact .inr (by simp only at hi; omega)
  · obtain ⟨n1, n2, n3, -⟩ := new3 w (.map #[] 0) (.map #[] 0) (.cells #[.pointer (some ⟨p, 0, none⟩), .map (some w.heap.size), .int .i64 most, .int .i64 0, .map (some (w.heap.size + 1))] 85)
    exact {
      heap := n3
      log := H.out.below hB3
      lt := fun i hi => Nat.lt_of_lt_of_le (HF.out i hi) hB3.size
      dirty := grpIn_empty (ownsMap_tight (map_empty n1) (Nat.zero_le _)) _
      bytes := fun n v hv => (by cases hv)
      clean := fun _ _ => rfl
      used := grpIn_empty (ownsMap_tight (map_empty n2) (Nat.zero_le _)) _
      offc := fun hi => (by have := HF.out _ hi; omega)
      offd := fun hi => Nat.lt_irrefl _ (HF.out _ hi)
      offu := fun hi => absurd (HF.out _ hi) (show ¬ (w.heap.size + 1 < w.heap.size) by omega)
      ne := Nat.ne_of_lt (Nat.lt_succ_self _)
      pages := rfl
      fits := hs
      few := Nat.zero_le _
      ub := fun n u hu => (by cases hu) }
section
variable {c : Nat} {L : CLay} {C : CS}
set_option maxRecDepth 100000 in
set_option maxHeartbeats 4000000 in
theorem bcommit_two (w : World) (h : CacheAt w c L C) (ht : TwoAt w L.d C.S L.F) (hr : C.dirtyKeys.length ≤ min C.size 100) (ho : C.S.ops.length ≤ 800000) :
    Calls Tryz.prog 29 #[.pointer (some ⟨c, 0, none⟩)] w fun e w' => e = .returned (.int .i64 0) ∧ ∃ d' F', d'.fv = L.d.fv ∧ TwoAt w' d' C.com F' ∧ (∀ i, L.F i → F' i) ∧ (∀ i, F' i → L.F i ∨ w.heap.size ≤ i) ∧ CacheAt w' c { L with d := d', F := F', Dd := .map [], dv := fun _ => none } { C with S := C.com, dirty := fun _ => none } ∧ Keeps (fun i => L.F i ∨ i = L.dm) w w' := by
  obtain ⟨c0, c1, -⟩ := h.cells
  have HT := hid ht
  obtain ⟨i0, hi, hz0, hz1, hz2⟩ := info_parts infoPage
  have HI0 := hid hi
  have HDi := hid (bdirty_any w h)
  have H := hid h
  have HPg := hid (fun n (hn : n ∈ C.dirtyKeys) => h.page hn)
  have HCo := hid (h.com hr)
  have HSl : Hid (C.com.safe.length = C.S.safe.length) := by unfold Hid; rw [← (h.com hr).2]; exact comS_len _ _ _ _
  have hks : C.dirtyKeys.length ≤ 100 := by omega
  have hcl := lt_of_heap h.heap
  clear h hi hr ht
  go_enter Tryz.func29, Tryz.ntmps29
  go_wp2_with fail
  refine HDi.out.mono ?_
  clear HDi
  rintro e w1 ⟨v, rfl, hrow, -, hb1⟩
  obtain ⟨ra, rc, rfl, hints⟩ := row_slice hrow
  have HI := hid hints
  have HB1 := hid hb1
  have hs1 := hb1.size
  clear hrow hb1 hints
  have hlook : ∀ n ∈ C.dirtyKeys, ∀ W : World, Below w.heap.size w W → (Instr.lookup 80 (.map (some L.dm)) (.int .i64 n) false).run Tryz.prog W = .ok (L.page n).val W := fun n hn W hW => by
    have hgW := H.out.dirty.below hW
    obtain ⟨g, cap, bs, h1, h2, -, -, -, -, h0, h3⟩ := HPg.out n hn
    have hN := H.out.pagesLe
    obtain ⟨u, hr, hu⟩ := self_lookup hgW.mapOwn (int_keyed Tryz.underlying3) Tryz.underlying80 (Tryz.zeroValue49 W) (keyI (n := n) (by omega) (by omega))
    rw [hr]
    rw [hgW.held n _ h1] at hu
    rw [← DataW.held.inj hu, h2]
    rfl
  have HLk := hid hlook
  clear hlook
  have HPo := hid (fun (W : World) (B : Nat) (v : Value) hrow => H.out.pagesOf (W := W) (B := B) (v := v) hrow)
  generalize hkeq : C.dirtyKeys = ks at *
  go_wp2
  go_loopw [3, 12] (fun v i wr => ∃ k : Nat, k ≤ ks.length ∧ i = .int .i64 k ∧ Hid (wr.ownsRow w1.heap.size 114 2 v k (L.cells (ks.take k))) ∧ Hid (Below w1.heap.size w1 wr)) (fun _ i _ => ks.length - (intOf i).toNat)
  case atStart => exact ⟨0, by omega, rfl, World.ownsRow_nil _ _ _ _, Below.refl _ _⟩
  case round =>
    obtain ⟨k, hk, rfl, hO, hB⟩ := hrel
    have hBw := HB1.out.trans (hB.out.mono hs1)
    have c1r : wr.cell? ⟨c, 1, none⟩ = some (.map (some L.dm)) := (hBw.cell (p := ⟨c, 1, none⟩) hcl).trans c1
    have c0r : wr.cell? ⟨c, 0, none⟩ = some (.pointer (some ⟨L.p, 0, none⟩)) := (hBw.cell (p := ⟨c, 0, none⟩) hcl).trans c0
    have HBw := hid hBw
    clear hBw
    by_cases hlt : k < ks.length
    · have hk0 : (0 : Int) ≤ (k : Int) := by omega
      have hk1 : (k : Int) < (ks.length : Int) := by omega
      obtain ⟨g, rfl, hg1, hg2, hgc⟩ := HI.out k hlt
      have hcj : wr.cell? ⟨g, k, none⟩ = some (.int .i64 ks[k]) := by
        refine (hB.out.cell (p := ⟨g, k, none⟩) hg1).trans ?_
        rw [hgc k hlt]; simp [hlt]
      have hmem : ks[k] ∈ ks := List.getElem_mem hlt
      obtain ⟨gp, cap, bs, -, hpg, -⟩ := HPg.out _ hmem
      have hlk := HLk.out _ hmem wr HBw.out
      rw [hpg] at hlk
      simp only [PageS.val] at hlk
      have HSn : Hid (L.cells (ks.take (k + 1)) = L.cells (ks.take k) ++ [.int .i64 ks[k], .slice (some ⟨gp, 0, none⟩) 512 cap]) := by unfold Hid; rw [List.take_succ_eq_append_getElem hlt, cells_snoc, hpg]; rfl
      clear hgc hmem hpg hg1 hg2 c0r
      generalize ks[k] = x at *
      have hsr := hB.out.size
      go_wp2_with (refine wpList_append_lies _ rfl (.tmp 16) (.tmp 25) 44 rfl w1.heap.size 114 i0 (.agg #[.int .i64 0, .slice none 0 0]) 2 32 Tryz.underlying44 HI0.out hz0 hz1 hz2 rfl (by omega) u3 k _ rfl (hO.out.alloc _) ⟨wr.heap.size, 0, none⟩ 1 1 [.int .i64 x, .slice (some ⟨gp, 0, none⟩) 512 cap] rfl rfl (World.news_of_block (cs := #[.int .i64 x, .slice (some ⟨gp, 0, none⟩) 512 cap]) (block_new wr _)) (by intro u hu; rcases List.mem_cons.1 hu with rfl | hu; rfl; rw [List.mem_singleton.1 hu]; rfl) (by omega) (by unfold maxLen; omega) (by omega) (by simp; omega) (wr.heap.size + 1) (by simp) ?_; intro g2 cap2 w5 hown hgr hat hlt2; have HOw := hid hown; have HGr := hid hgr; clear hown hgr hat hlt2)
      refine ⟨⟨k + 1, by omega, by go_num, ?_, ?_⟩, by simp [intOf]; omega⟩
      · unfold Hid
        rw [HSn.out]; exact HOw.out
      · have hb2 := hB.out.trans (((Below.refl wr.heap.size wr).alloc (Nat.le_refl _) (.cells #[.int .i64 x, .slice (some ⟨gp, 0, none⟩) 512 cap] 114)).mono hB.out.size)
        exact hb2.trans (below_of_row HGr.out hb2.size (fun i hi => (hO.out.lt i hi).1))
    · obtain rfl : k = ks.length := by omega
      have hge : ¬ ((ks.length : Int) < (ks.length : Int)) := by omega
      have hOf := hO.out
      rw [List.take_length] at hOf
      obtain ⟨pa, pc, rfl, hps⟩ := HPo.out _ _ _ hOf
      have HPs := hid hps
      have Hr := hid (H.out.below HBw.out)
      have HCm := hid (commit_any_fv (L.ps ks) pa pc (fun j => (C.dirty (ks.getD j 0)).getD []) wr Hr.out.log Hr.out.lt Hr.out.fits HPs.out (fun j hj _ => by
        have hj' : j < ks.length := by simpa [CLay.ps] using hj
        obtain ⟨gp, cap, bs, -, hpg, h1, h2, h3, h4, -⟩ := HPg.out ks[j] (List.getElem_mem hj')
        have e : (L.ps ks)[j] = L.page ks[j] := by simp [CLay.ps]
        have e2 : (C.dirty (ks.getD j 0)).getD [] = bs := by simp [List.getElem?_eq_getElem hj', h1]
        rw [e, hpg]
        simp only [e2]
        exact ⟨⟨gp, 0, none⟩, rfl, fun i hi => (HBw.out.cell (World.block_lt_of_cell? w _ (h2 i hi))).trans (h2 i hi), h3, h4⟩) ho)
      have hpl : (L.ps ks).length = ks.length := by simp [CLay.ps]
      rw [hpl, HCo.out.1, HCo.out.2] at HCm
      clear hOf hps hpl hO c1r
      go_wp2_with fail
      refine HCm.out.mono ?_
      clear HCm
      rintro e w5 ⟨rfl, d', ⟨hfv, hd'⟩, hlog, hk5⟩
      have HC5 := hid (Hr.out.committed hlog hk5 (fun i hi => hi) HSl.out)
      have HK5 := hid hk5
      obtain ⟨z0, z1, -⟩ := HC5.out.cells
      have z1' : w5.cell? ⟨c, 1, none⟩ = some (.map (some L.dm)) := z1
      obtain ⟨es, clock, hmb⟩ := HC5.out.dmap
      have hmb' : w5.heap[L.dm]? = some (.map es clock) := hmb
      obtain ⟨w9, hclear, hm9, hg9⟩ := run_clearB hmb'
      have HC9 := hid (HC5.out.cleared hm9 hg9)
      have HFv := hid hfv
      have HT9 : Hid (TwoAt w9 d' C.com (fun i => L.F i ∨ (wr.heap.size ≤ i ∧ i < w5.heap.size))) := by
        have t5 : TwoAt w5 d' C.com (fun i => L.F i ∨ (wr.heap.size ≤ i ∧ i < w5.heap.size)) := by
          rcases hd' with ⟨e1, e2, hb5⟩ | ho
          · subst e1
            rw [e2]
            rcases (HT.out.below HBw.out).below hb5 with ⟨q1, q2, q3⟩ | q
            · exact .inl ⟨q1, q2, fun i hi => .inl (q3 i hi)⟩
            · exact .inr (q.mono (fun i hi => .inl hi))
          · exact .inr ho
        have hkd : Keeps (fun i => i = L.dm) w5 w9 := (Keeps.refl _ _).grown hg9 (fun i e => .inl (Option.some.inj e).symm)
        refine t5.keepF hkd (fun i hi e => ?_) (fun i hi e => ?_)
        · have e' : i = L.dm := e
          subst e'
          exact HC5.out.offd hi
        · have e' : i = L.dm := e
          subst e'
          obtain ⟨ad, c2, e4, e5, hfl⟩ : ∃ ad c2, d'.fv = .slice (some ad) C.com.first.length c2 ∧ (∀ j s, C.com.first[j]? = some s → w5.cell? (ad.add j) = some (.string s)) ∧ C.com.first.length = C.com.safe.length := by
            rcases t5 with ⟨q1, -, -⟩ | q
            · obtain ⟨ad, c2, e4, e5, -⟩ := q1.first; exact ⟨ad, c2, e4, e5, q1.flen⟩
            · obtain ⟨ad, c2, e4, e5, -⟩ := q.1.first; exact ⟨ad, c2, e4, e5, q.1.flen⟩
          have hfit := HC5.out.fits
          have hfit' : C.size + 1 ≤ C.com.safe.length := hfit
          have hpos : 0 < C.com.first.length := by omega
          have hc0 := e5 0 _ (List.getElem?_eq_getElem hpos)
          rw [e4] at hi
          have hb0 : ad.block = L.dm := Option.some.inj hi
          have h9 := cell_map hmb' hc0
          rw [add_block] at h9
          exact h9 hb0
      have HK9 : Hid (Keeps (fun i => L.F i ∨ i = L.dm) w w9) := ((Keeps.of_below HBw.out).trans hk5 (fun i e => .inl (.inl e))).grown hg9 (fun i e => .inl (.inr (Option.some.inj e).symm))
      have hsw := HBw.out.size
      clear hlog hk5 z0 z1 hmb hmb' hm9 hg9 c0r hfv hd'
      go_wp2
      go_ret
      exact ⟨rfl, d', _, HFv.out, HT9.out, fun i hi => .inl hi, fun i hi => hi.elim .inl (fun h => .inr (by omega)), HC9.out, HK9.out⟩
end
set_option maxRecDepth 100000 in
set_option maxHeartbeats 1000000 in
theorem b4open_two (size most : Nat) (h1 : 1 ≤ size) (h2 : size ≤ 12) (hm1 : 1 ≤ most) (hm2 : most ≤ 64) (w : World) :
    Calls Tryz.prog 7 #[.int .i64 size, .int .i64 most] w fun e w' => Below w.heap.size w w' ∧ ∃ c L q, e = .returned (.tuple #[.pointer (some ⟨c, 0, none⟩), .pointer (some ⟨q, 0, none⟩), .bool true]) ∧ L.dv = (fun _ => none) ∧ (∀ i, L.foot c i → w.heap.size ≤ i) ∧ w.heap.size ≤ L.p ∧ (∀ i, L.d.fv.ownBlock = some i → w.heap.size ≤ i ∧ i < w'.heap.size) ∧ TwoAt w' L.d (freshN (size + 12)) L.F ∧
      CacheAt w' c L ⟨freshN (size + 12), size, pagesS (freshN (size + 12)) size, fun _ => none, most, 0, fun _ => none⟩ := by
  obtain ⟨n, hn⟩ : ∃ n, n = size + 12 := ⟨_, rfl⟩
  rw [← hn]
  have hn1 : IntKind.i64.wrap ((size : Int) + 12) = (n : Int) := by rw [IntWalk.i64_in _ (by omega)]; omega
  have hn2 : size + 2 ≤ n := by omega
  have hn3 : n ≤ 4096 := by omega
  have HN := hid hn
  clear hn
  go_enter Tryz.func7, Tryz.ntmps7
  go_wp2_with fail
  refine (new_disk n (by omega) hn3 _).mono ?_
  rintro e w1 ⟨d, rfl, hD, -, hfv0, hB⟩
  have HFv0 := hid hfv0
  have HFl0 : Hid (∀ i, d.fv.ownBlock = some i → i < w1.heap.size) := fun i hi => by
    obtain ⟨ad, c, e1, e2, _⟩ := hD.first
    have hpos : 0 < (freshS (List.replicate n blankS)).first.length := by show 0 < (List.replicate n blankS).length; simp; omega
    have h00 := e2 0 _ (List.getElem?_eq_getElem hpos)
    have h1 := World.block_lt_of_cell? w1 _ h00
    rw [add_block] at h1
    rw [e1] at hi
    obtain rfl := Option.some.inj hi
    exact h1
  clear hfv0
  have HD : Hid (DiskIn w1 d (freshN n)) := hD
  have HB1 := hid hB
  have HRn := hid (rnew_ok n (by omega) hn3 w1)
  clear hD hB
  go_wp2_with fail
  refine HRn.out.mono ?_
  clear HRn
  rintro e w2 ⟨rfl, hb2, fv, hR2⟩
  have HR2 := hid hR2
  have HB2 := hid (HB1.out.trans (hb2.mono HB1.out.size))
  have hs12 := hb2.size
  have hs01 := HB1.out.size
  have hOp := open_zero_two d (freshN n) size w2 (HD.out.below hb2) (by show 0 ≤ 4096; decide) h1 (by rw [freshN_len]; exact hn2) (by rw [show ((0 : Int)) = ((0 : Nat) : Int) from rfl, freshN_seen n 0 (by omega)]; exact blank_zeros)
  have HOp := hid hOp
  clear hb2 hR2 HD hOp
  go_wp2_with fail
  refine HOp.out.mono ?_
  clear HOp
  rintro e w3 ⟨hb3, p, d3, rfl, hp3, hL3, hC3, hcf3, hfv3⟩
  have HC3 := hid hC3
  have HCf := hid hcf3
  have HFv3 := hid hfv3
  clear hC3 hcf3 hfv3
  have HL3 := hid hL3
  have HB3 := hid (HB2.out.trans (hb3.mono HB2.out.size))
  have hs23 := hb3.size
  have hpl := lt_of_heap hL3.heap
  have hR3 := HR2.out.keep (Keeps.of_below (F := fun _ => False) hb3) (fun _ _ h => h) (fun h => h)
  have hRo := ropen_zero w1.heap.size fv (.slice none 0 0) [] _ (rfresh n) size w3 hR3 (fun i hi => by omega) (okR_fresh n hn3) (by show 0 ≤ 1000000; decide) h1 (by rw [rfresh_length]; exact hn2) (by
    show (rfresh n).first[0]? = some zeros
    rw [List.getElem?_eq_getElem (by rw [rfresh_length]; omega), rfresh_at])
  have HRo := hid hRo
  clear hb3 hL3 hR3 hRo HR2
  go_wp2_with fail
  refine HRo.out.mono ?_
  clear HRo
  rintro e w4 ⟨hb4, q, r, rfl, hq, hr, hRl⟩
  have HRl := hid hRl
  have HC4 := hid (HC3.out.below hb4)
  have HL4 : Hid (LogIn w4 p d3 (freshN n) size 0 (fun i => w2.heap.size ≤ i ∧ i < p)) := ⟨below_block hb4 HL3.out.heap (lt_of_heap HL3.out.heap), HL3.out.disk.below hb4, HL3.out.off⟩
  have HB4 := hid (HB3.out.trans (hb4.mono HB3.out.size))
  have hs34 := hb4.size
  have HNw := hid (bnew_two p d3 (freshN n) size (fun i => w2.heap.size ≤ i ∧ i < p) most hm1 hm2 w4 HL4.out (fun i hi => by omega) (by rw [freshN_len]; omega))
  clear hb4 hRl HL3 HL4
  go_wp2_with fail
  refine HNw.out.mono ?_
  clear HNw
  rintro e w5 ⟨hb5, c, L, rfl, hc5, hdv, hLF, hLp, hLd, hft, hC5⟩
  have HLF := hid hLF
  have HLp := hid hLp
  have HLd := hid hLd
  have HCC5 := hid (HC4.out.below hb5)
  have HC5 := hid hC5
  have HB5 := hid (HB4.out.trans (hb5.mono HB4.out.size))
  have HR5 := hid (HRl.out.belowK hb5)
  have HRk := hid (r4new_ok q most hm1 hm2 w5)
  have HFt := hid hft
  have HDv := hid hdv
  have hs45 := hb5.size
  clear hb5 hC5 hft hLF HRl hdv hLp hLd HC4
  go_wp2_with fail
  refine HRk.out.mono ?_
  clear HRk
  rintro e w6 ⟨rfl, hb6, hq6⟩
  have HQ6 := hid hq6
  have HC6 := hid (HC5.out.below hb6)
  have hs56 := hb6.size
  have HCC6 := hid (HCC5.out.below hb6)
  have HB6 := hid (HB5.out.trans (hb6.mono HB5.out.size))
  clear hb6 hq6 HC5 HR5 HCC5
  go_wp2
  go_returns
  refine ⟨HB6.out, c, L, _, rfl, HDv.out, fun i hi => (HFt.out i hi).elim (fun h => by omega) (fun h => by omega), by rw [HLp.out]; omega, fun i hi => ?_, ?_, HC6.out⟩
  · rw [HLd.out, HFv3.out] at hi
    have h1 := HFv0.out i hi
    have h2 := HFl0.out i hi
    omega
  · rw [HLd.out, HLF.out]
    exact .inl ⟨HCC6.out, rfl, HCf.out⟩
section
variable {w w' : World} {c : Nat} {L : CLay} {C : CS} {G : Nat → Prop}
/-- What a cache reads and does not write itself: none of it lies in G. -/
structure Off (L : CLay) (c : Nat) (G : Nat → Prop) : Prop where
  foot : ∀ i, L.foot c i → ¬ G i
  p : ¬ G L.p
  fv : ∀ i, L.d.fv.ownBlock = some i → ¬ G i
  rows : ∀ n g cap, L.dv n = some (.slice (some ⟨g, 0, none⟩) 512 cap) → ¬ G g
theorem CacheAt.keepT (h : CacheAt w c L C) (ht : TwoAt w L.d C.S L.F) (k : Keeps G w w') (o : Off L c G) : CacheAt w' c L C ∧ TwoAt w' L.d C.S L.F := by
  have ht' := ht.keepF k (fun i hi => o.foot i (.inl hi)) o.fv
  refine ⟨{
    heap := k.heap h.heap (o.foot c (.inr (.inl rfl)))
    log := ⟨k.heap h.log.heap o.p, ht'.any, h.log.off⟩
    lt := fun i hi => Nat.lt_of_lt_of_le (h.lt i hi) k.size
    dirty := h.dirty.keep k (o.foot _ (.inr (.inr (.inl rfl))))
    bytes := fun n v hv => ?_
    clean := h.clean
    used := h.used.keep k (o.foot _ (.inr (.inr (.inr rfl))))
    offc := h.offc
    offd := h.offd
    offu := h.offu
    ne := h.ne
    pages := h.pages
    fits := h.fits
    few := h.few
    ub := h.ub }, ht'⟩
  obtain ⟨g, cap, bs, e1, e2, e3, e4, e5⟩ := h.bytes n v hv
  refine ⟨g, cap, bs, e1, e2, fun j hj => k.cell (e3 j hj) ?_, e4, e5⟩
  rw [add_block]
  exact o.rows n g cap (by rw [hv, e2])
end
end Go.Proofs.YtjgclmlclkfgpaaGreat
