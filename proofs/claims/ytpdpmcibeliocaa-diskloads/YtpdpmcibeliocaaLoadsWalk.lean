/- The walk of DiskLoads. -/
import Derived.Test.YtpdpmcibeliocaaRLoad
import Derived.Test.YtpdpmcibeliocaaLoad
import Derived.Test.YtpdpmcibeliocaaSameAll
import Derived.Test.YtpdpmcibeliocaaAlonePlain
namespace Go.Proofs.Ytpdpmcibeliocaa
open Go.RowKit
/-- Rows of bytes, of the lengths that len says, in blocks from lo on and below hi. -/
def imgTo (w : World) (lo hi : Nat) (full : Prop) (x : Int) (len : Nat → Nat) (v : Value) (vs : List Value) (k : Nat) : Prop :=
  w.ownsRow lo 28 1 v k vs ∧ ∀ i, i < k → ∃ g C, vs[i]? = some (.slice (some ⟨g, 0, none⟩) (len i) (len i)) ∧ lo ≤ g ∧ g < hi ∧ w.heap[g]? = some (.cells C 5 (0, 0)) ∧ C.size = len i ∧ (full → C = (List.replicate (len i) (Value.int .u8 x)).toArray)
theorem imgTo.apart {w : World} {lo hi : Nat} {full : Prop} {x : Int} {len : Nat → Nat} {v : Value} {vs : List Value} {k : Nat} (h : imgTo w lo hi full x len v vs k) {g : Nat} {C : Array Value} (hg : w.heap[g]? = some (.cells C 5 (0, 0))) : v.ownBlock ≠ some g := fun e => by
  obtain ⟨cur, hc⟩ := row_type h.1 e
  rw [hg] at hc
  simp only [Option.some.injEq, Obj.cells.injEq] at hc
  exact absurd hc.2.1 (by decide)
theorem imgTo_step {w w1 w3 : World} {lo : Nat} {x : Int} {len : Nat → Nat} {v : Value} {vs : List Value} {k g g3 cap3 : Nat} {o : Obj} (h : imgTo w lo w.heap.size True x len v vs k) (hlo : lo ≤ w.heap.size) (hB : Below w.heap.size w w1)
    (hg1 : w.heap.size ≤ g) (hb : w1.heap[g]? = some (.cells (List.replicate (len k) (Value.int .u8 x)).toArray 5 (0, 0)))
    (hown : w3.ownsRow lo 28 1 (.slice (some ⟨g3, 0, none⟩) (k + 1) cap3) (k + 1) (vs ++ [.slice (some ⟨g, 0, none⟩) (len k) (len k)]))
    (hgr : (w1.alloc o).grownBy w3 v.ownBlock) : imgTo w3 lo w3.heap.size True x len (.slice (some ⟨g3, 0, none⟩) (k + 1) cap3) (vs ++ [.slice (some ⟨g, 0, none⟩) (len k) (len k)]) (k + 1) := by
  have hl : vs.length = k := by have := h.1.1; omega
  have hs1 := hB.size
  have hs3 := hgr.size
  have hsa : (w1.alloc o).heap.size = w1.heap.size + 1 := by simp
  have hg2 := lt_of_heap hb
  refine ⟨hown, fun i hik => ?_⟩
  by_cases e : i = k
  · subst e
    exact ⟨g, _, by simp [hl], by omega, by omega, grown_block hgr (block_alloc hb _) (fun e => by have := (h.1.lt _ e).2; omega), by simp, fun _ => rfl⟩
  · obtain ⟨gi, C, h1, h2, h3, h4, h5, h6⟩ := h.2 i (by omega)
    exact ⟨gi, C, by rw [List.getElem?_append_left (by omega)]; exact h1, h2, by omega, grown_block hgr (block_alloc (below_block hB h4 h3) _) (h.apart h4), h5, h6⟩
theorem imgTo.keep {w w' : World} {lo hi : Nat} {full : Prop} {x : Int} {len : Nat → Nat} {v : Value} {vs : List Value} {k : Nat} (h : imgTo w lo hi full x len v vs k) (hB : Below w.heap.size w w') : imgTo w' lo hi full x len v vs k :=
  ⟨(Keeps.of_below (F := fun _ => False) hB).row h.1 (fun _ _ e => e), fun i hi => by
    obtain ⟨g, C, h1, h2, h3, h4, h5, h6⟩ := h.2 i hi
    exact ⟨g, C, h1, h2, h3, below_block hB h4 (lt_of_heap h4), h5, h6⟩⟩
theorem imgTo.loose {w : World} {lo hi : Nat} {full : Prop} {x : Int} {len : Nat → Nat} {v : Value} {vs : List Value} {k : Nat} (h : imgTo w lo hi full x len v vs k) : imgTo w lo hi False x len v vs k :=
  ⟨h.1, fun i hi => by
    obtain ⟨g, C, h1, h2, h3, h4, h5, h6⟩ := h.2 i hi
    exact ⟨g, C, h1, h2, h3, h4, h5, fun e => e.elim⟩⟩
theorem imgTo.set {w : World} {lo hi : Nat} {x : Int} {len : Nat → Nat} {v : Value} {vs : List Value} {k g j : Nat} {C : Array Value} {u : Value} (h : imgTo w lo hi False x len v vs k) (hg : w.heap[g]? = some (.cells C 5 (0, 0))) : imgTo (w.setCell ⟨g, j, none⟩ u) lo hi False x len v vs k :=
  ⟨h.1.kept (grown_setCell (grown_refl w (some g)) j u) (.inr (h.apart hg)), fun i hi => by
    obtain ⟨gi, Ci, h1, h2, h3, h4, h5, h6⟩ := h.2 i hi
    by_cases e : gi = g
    · subst e
      exact ⟨gi, _, h1, h2, h3, block_setCell h4 j u, by simpa using h5, fun e => e.elim⟩
    · exact ⟨gi, Ci, h1, h2, h3, by rw [block_setCell_other _ _ e]; exact h4, h5, h6⟩⟩
/-- The rows' bytes. -/
def imgL (len : Nat → Nat) (x : Int) (n : Nat) : List (List UInt8) := (List.range n).map (fun i => fullS (len i) x)
theorem length_imgL (len : Nat → Nat) (x : Int) (n : Nat) : (imgL len x n).length = n := by simp [imgL]
theorem imgTo.rows {w : World} {lo hi : Nat} {x : Int} {len : Nat → Nat} {v : Value} {vs : List Value} {n : Nat} (h : imgTo w lo hi True x len v vs n) (x0 : 0 ≤ x) (x1 : x ≤ 255) : ∃ a c, v = .slice a n c ∧ rowsAt w a (imgL len x n) := by
  obtain ⟨sa, c, rfl, hr⟩ := row_slice h.1
  refine ⟨sa, c, rfl, fun j hj => ?_⟩
  rw [length_imgL] at hj
  obtain ⟨g, rfl, _, hg, hc⟩ := hr j hj
  refine ⟨g, 0, rfl, fun i hi => ?_⟩
  rw [length_imgL] at hi
  obtain ⟨gi, C, h1, h2, h3, h4, h5, h6⟩ := h.2 i hi
  obtain rfl := h6 trivial
  have e : (imgL len x n)[i]'(by rw [length_imgL]; exact hi) = fullS (len i) x := by simp [imgL]
  refine ⟨some ⟨gi, 0, none⟩, len i, ?_, ?_⟩
  · rw [Nat.zero_add, hc i hi, h1]; simp [imgL, length_full]
  · rw [e]; exact bytesIn_of_at (bytes_full h4 x0 x1)
/-- How long the rows are. -/
def loadLen (ss : List Int) (i : Nat) : Nat := deedLen (ss.getD i 0)
theorem loadLen_le (ss : List Int) (i : Nat) : loadLen ss i ≤ 600 := by unfold loadLen deedLen; split <;> omega
theorem bytesOf_secsOf (L : List (List UInt8)) : bytesOf (secsOf L) = L := by simp [bytesOf, secsOf, Function.comp_def]
set_option maxRecDepth 100000 in
set_option maxHeartbeats 4000000 in
theorem loads_walk (ss : List Int) (a : Option Addr) (c : Nat) (hlen : ss.length ≤ 9223372036854775807) (x : Int) (x0 : 0 ≤ x) (x1 : x ≤ 255) (w : World) (hss : intsAt w a ss) :
    Calls Try.prog 6 #[.slice a ss.length c, .int .u8 x] w fun e w' => e = .returned (.bool true) ∧ Below w.heap.size w w' := by
  have HSS := hid hss
  obtain ⟨i0, hi, hz0, hz1, hz2⟩ := info_parts infoRow
  have HI := hid hi
  clear hss hi
  go_enter Try.func6, Try.ntmps6
  go_wp2
  go_loopw [5, 6] (fun v i wr => ∃ (k : Nat) (vs : List Value), k ≤ ss.length ∧ k ≤ 20 ∧ i = .int .i64 k ∧ Hid (imgTo wr w.heap.size wr.heap.size True x (loadLen ss) v vs k) ∧ Hid (Below w.heap.size w wr)) (fun _ i _ => 20 - (intOf i).toNat)
  case atStart => exact ⟨0, [], by omega, by omega, rfl, ⟨World.ownsRow_nil _ _ _ _, fun i h => by omega⟩, Below.refl _ _⟩
  case round =>
    obtain ⟨k, vs, hk, hk20, rfl, hM, hB⟩ := hrel
    by_cases hlt : k < ss.length ∧ k < 20
    · obtain ⟨hlt, hlt20⟩ := hlt
      have hk0 : (0 : Int) ≤ (k : Int) := by omega
      have hk1 : (k : Int) < (ss.length : Int) := by omega
      have hk2 : (k : Int) < 20 := by omega
      obtain ⟨b, o, rfl, hc⟩ := HSS.out k hlt
      have ck : wr.cell? ⟨b, o + k, none⟩ = some (.int .i64 ss[k]) := (hB.out.cell (p := ⟨b, o + k, none⟩) (World.block_lt_of_cell? w _ (hc k hlt))).trans (hc k hlt)
      have HD := hid (deed_bytes false 0 ss[k] x wr)
      have eD : deedLen ss[k] = loadLen ss k := by simp [loadLen, hlt]
      have HSt := hid (fun w1 w3 g g3 cap3 o x1 x2 x3 x4 x5 => imgTo_step (w1 := w1) (w3 := w3) (g := g) (g3 := g3) (cap3 := cap3) (o := o) hM.out hB.out.size x1 x2 x3 x4 x5)
      rw [← eD] at HSt
      have HMr := hid hM.out.1
      have HMlt := hid (fun i e => (hM.out.1.lt i e).1)
      clear hM hc eD
      generalize ss[k] = sk at *
      generalize deedLen sk = dl at *
      go_wp2_with fail
      refine HD.out.mono ?_
      clear HD
      rintro e w1 ⟨g, rfl, hg1, hb1, hB1⟩
      have HB1 := hid hB1
      have HR1 := hid ((Keeps.of_below (F := fun _ => False) hB1).row HMr.out (fun _ _ e => e))
      have Hb1 := hid hb1
      clear hB1 hb1
      go_wp2_with (refine wpList_append_lies _ rfl (.tmp 24) (.tmp 32) 46 rfl w.heap.size 28 i0 (.slice none 0 0) 1 24 Try.underlying46 HI.out hz0 hz1 hz2 rfl (by omega) u5 k vs rfl (HR1.out.alloc _) ⟨w1.heap.size, 0, none⟩ 1 1 [.slice (some ⟨g, 0, none⟩) dl dl] rfl rfl (World.news_of_block (cs := #[.slice (some ⟨g, 0, none⟩) dl dl]) (block_new w1 _)) (by intro u hu; rw [List.mem_singleton.1 hu]; rfl) (by omega) (by unfold maxLen; omega) (by omega) (by have := hB.out.size; have := HB1.out.size; simp; omega) (w1.heap.size + 1) (by simp) ?_; intro g3 cap3 w3 hown hgr hat hlt2; have HO := hid hown; have HG := hid hgr; clear hown hgr hat hlt2)
      have hbw := hB.out.trans (HB1.out.mono hB.out.size)
      have hba := hbw.alloc hbw.size (.cells #[.slice (some ⟨g, 0, none⟩) dl dl] 28)
      exact ⟨⟨k + 1, _, by omega, by omega, by go_num, HSt.out w1 w3 g g3 cap3 _ HB1.out hg1 Hb1.out HO.out HG.out, hba.trans (below_of_row HG.out hba.size HMlt.out)⟩, by simp [intOf]; omega⟩
    · have hcase : ¬ ((k : Int) < (ss.length : Int)) ∨ ((k : Int) < (ss.length : Int) ∧ ¬ ((k : Int) < 20)) := by omega
      obtain ⟨ia, ic, rfl, hrows⟩ := hM.out.rows x0 x1
      have HIm := hM
      have HRows := hid hrows
      have HL := hid (length_imgL (loadLen ss) x k)
      have hld := load_disk (imgL (loadLen ss) x k) ia ic wr hrows (by rw [HL.out]; omega)
      rw [HL.out] at hld
      have HLd := hid hld
      have HRl := hid (fun W hW => rload_any (imgL (loadLen ss) x k) ia ic W hW (by rw [HL.out]; omega))
      simp only [rloaded] at HRl
      rw [HL.out] at HRl
      generalize imgL (loadLen ss) x k = L at *
      clear hM hrows hld
      obtain ⟨W0, hW0⟩ : ∃ W0, wr.heap.size = W0 := ⟨_, rfl⟩
      rw [hW0] at HIm
      rcases hcase with h | ⟨h, h'⟩
      all_goals
        go_wp2_with fail
        refine HLd.out.mono ?_
        clear HLd
        rintro e w1 ⟨hb1, h1⟩
        have HIm1 := hid (HIm.out.keep hb1)
        have HB1 := hid (hB.out.trans (hb1.mono hB.out.size))
        have HRl1 := hid (HRl.out w1 (HRows.out.below hb1))
        rcases h1 with ⟨hn, rfl⟩ | ⟨hn, h5, rfl⟩ | ⟨hn, h5, d, rfl, hD, hf, hfv⟩
        · clear hb1
          go_wp2_with fail
          refine HRl1.out.mono ?_
          clear HRl1
          rintro e w2 ⟨hb2, h2⟩
          rcases h2 with ⟨hn2, rfl⟩ | ⟨hn2, h52, rfl⟩ | ⟨hn2, h52, r, a', c', rfl, -⟩
          rotate_left
          · exact absurd hn2 hn
          · exact absurd hn2 hn
          have HIm2 := hid (HIm1.out.keep hb2)
          have HB2 := hid (HB1.out.trans (hb2.mono HB1.out.size))
          clear hb2
          go_wp2_with fail
          refine (live_any w2).mono ?_
          rintro e w3 ⟨rfl, hb3⟩
          have HIm3 := hid (HIm2.out.keep hb3)
          have HB3 := hid (HB2.out.trans (hb3.mono HB2.out.size))
          clear hb3 HIm1 HIm2 HB1 HB2
          go_wp2_with fail
          refine (rimage_nil _).mono ?_
          rintro e w9 ⟨rfl, h9⟩
          obtain rfl := h9.symm
          go_wp2
          go_loopw [12] (fun i W => ∃ j : Nat, j ≤ k ∧ i = .int .i64 j ∧ Hid (imgTo W w.heap.size W0 False x (loadLen ss) (.slice ia k ic) vs k) ∧ Hid (Keeps (fun i => i < W0) w3 W) ∧ Hid (Below w.heap.size w W)) (fun i _ => k - (intOf i).toNat)
          case atStart => exact ⟨0, by omega, rfl, HIm3.out.loose, Keeps.refl _ _, HB3.out⟩
          case round =>
            obtain ⟨j, hj, rfl, hI, hKp, hBe⟩ := hrel
            by_cases hjk : j < k
            · exact absurd ⟨by omega, by omega⟩ hn
            · obtain rfl : j = k := by omega
              have hge : ¬ ((j : Int) < (j : Int)) := by omega
              have hsa := same_all [] [] none none 0 0 wr (fun j hj => absurd hj (by simp)) (fun j hj => absurd hj (by simp)) (by simp) (by simp)
              rw [decide_eq_true rfl, List.length_nil] at hsa
              have HSa := hid hsa
              clear hsa
              go_wp2_with fail
              refine (image_nil _).mono ?_
              rintro e w9 ⟨rfl, h9⟩
              obtain rfl := h9.symm
              go_wp2_with fail
              refine HSa.out.mono ?_
              clear HSa
              rintro e w5 ⟨rfl, hb5⟩
              have HB5 := hid (hBe.out.trans (hb5.mono hBe.out.size))
              clear hb5
              go_wp2_with fail
              refine (ops_nil _).mono ?_
              rintro e w9 ⟨rfl, h9⟩
              obtain rfl := h9.symm
              go_wp2
              go_ret
              exact ⟨rfl, HB5.out⟩
        · clear hb1
          go_wp2_with fail
          refine HRl1.out.mono ?_
          clear HRl1
          rintro e w2 ⟨hb2, h2⟩
          rcases h2 with ⟨hn2, rfl⟩ | ⟨hn2, h52, rfl⟩ | ⟨hn2, h52, r, a', c', rfl, -⟩
          · exact absurd hn hn2
          rotate_left
          · exact absurd h52 h5
          have HIm2 := hid (HIm1.out.keep hb2)
          have HB2 := hid (HB1.out.trans (hb2.mono HB1.out.size))
          clear hb2
          go_wp2_with fail
          refine (live_any w2).mono ?_
          rintro e w3 ⟨rfl, hb3⟩
          have HIm3 := hid (HIm2.out.keep hb3)
          have HB3 := hid (HB2.out.trans (hb3.mono HB2.out.size))
          clear hb3 HIm1 HIm2 HB1 HB2
          go_wp2_with fail
          refine (rimage_nil _).mono ?_
          rintro e w9 ⟨rfl, h9⟩
          obtain rfl := h9.symm
          go_wp2
          go_loopw [12] (fun i W => ∃ j : Nat, j ≤ k ∧ i = .int .i64 j ∧ Hid (imgTo W w.heap.size W0 False x (loadLen ss) (.slice ia k ic) vs k) ∧ Hid (Keeps (fun i => i < W0) w3 W) ∧ Hid (Below w.heap.size w W)) (fun i _ => k - (intOf i).toNat)
          case atStart => exact ⟨0, by omega, rfl, HIm3.out.loose, Keeps.refl _ _, HB3.out⟩
          case round =>
            obtain ⟨j, hj, rfl, hI, hKp, hBe⟩ := hrel
            by_cases hjk : j < k
            · have hj0 : (0 : Int) ≤ (j : Int) := by omega
              have hj1 : (j : Int) < (k : Int) := by omega
              go_wp2
              go_loopw [13] (fun m W => ∃ q : Nat, q ≤ loadLen ss j ∧ m = .int .i64 q ∧ Hid (imgTo W w.heap.size W0 False x (loadLen ss) (.slice ia k ic) vs k) ∧ Hid (Keeps (fun i => i < W0) w3 W) ∧ Hid (Below w.heap.size w W)) (fun m _ => loadLen ss j - (intOf m).toNat)
              case atStart => exact ⟨0, by omega, rfl, hI.out, hKp.out, hBe.out⟩
              case round =>
                clear hI hKp hBe
                obtain ⟨q, hq, rfl, hI, hKp, hBe⟩ := hrel
                have hl6 := loadLen_le ss j
                obtain ⟨sa, cap, ev, hr⟩ := row_slice hI.out.1
                simp only [Value.slice.injEq, true_and] at ev
                obtain ⟨rfl, rfl⟩ := ev
                obtain ⟨gv, rfl, -, -, hcv⟩ := hr j hjk
                obtain ⟨g, C, e1, e2, e3, e4, e5, -⟩ := hI.out.2 j hjk
                have cv : wr.cell? ⟨gv, j, none⟩ = some (.slice (some ⟨g, 0, none⟩) (loadLen ss j) (loadLen ss j)) := (hcv j hjk).trans e1
                have HS := hid (fun (j : Nat) (u : Value) => imgTo.set (j := j) (u := u) hI.out e4)
                by_cases hql : q < loadLen ss j
                · have hq0 : (0 : Int) ≤ (q : Int) := by omega
                  have hq1 : (q : Int) < (loadLen ss j : Int) := by omega
                  have hqC : q < C.size := by omega
                  have cq : wr.cell? ⟨g, q, none⟩ = some C[q] := by rw [cell_of_block e4]; exact Array.getElem?_eq_getElem hqC
                  have fq : wr.frozen? ⟨g, q, none⟩ = false := frozen_of_block e4 _
                  generalize C[q] = cold at *
                  clear hr hcv e1 e4
                  go_wp2
                  exact ⟨⟨q + 1, by omega, by go_num, HS.out _ _, hKp.out.grown (grown_setCell (grown_refl _ _) _ _) (fun i e => .inl (by rw [← Option.some.inj e]; exact e3)), hBe.out.setCell e2 _⟩, by simp [intOf]; omega⟩
                · obtain rfl : q = loadLen ss j := by omega
                  have hge : ¬ ((loadLen ss j : Int) < (loadLen ss j : Int)) := by omega
                  clear hr hcv e1 e4 HS
                  go_wp2
                  exact ⟨⟨j + 1, by omega, by go_num, hI.out, hKp.out, hBe.out⟩, by simp [intOf]; omega⟩
            · obtain rfl : j = k := by omega
              have hge : ¬ ((j : Int) < (j : Int)) := by omega
              have hsa := same_all [] [] none none 0 0 wr (fun j hj => absurd hj (by simp)) (fun j hj => absurd hj (by simp)) (by simp) (by simp)
              rw [decide_eq_true rfl, List.length_nil] at hsa
              have HSa := hid hsa
              clear hsa
              go_wp2_with fail
              refine (image_nil _).mono ?_
              rintro e w9 ⟨rfl, h9⟩
              obtain rfl := h9.symm
              go_wp2_with fail
              refine HSa.out.mono ?_
              clear HSa
              rintro e w5 ⟨rfl, hb5⟩
              have HB5 := hid (hBe.out.trans (hb5.mono hBe.out.size))
              clear hb5
              go_wp2_with fail
              refine (ops_nil _).mono ?_
              rintro e w9 ⟨rfl, h9⟩
              obtain rfl := h9.symm
              go_wp2
              go_ret
              exact ⟨rfl, HB5.out⟩
        · have HD1 := hid hD
          rw [hW0] at hf hfv
          have HFt := hid hf
          have HFv := hid hfv
          have H5 := hid h5
          have hs1 := hb1.size
          rw [hW0] at hs1
          clear hb1 hD hf hfv h5
          go_wp2_with fail
          refine HRl1.out.mono ?_
          clear HRl1
          rintro e w2 ⟨hb2, h2⟩
          rcases h2 with ⟨hn2, rfl⟩ | ⟨hn2, h52, rfl⟩ | ⟨hn2, h52, r, ra, rc, rfl, hr0, hrb, hrr⟩
          · exact absurd hn hn2
          · exact absurd H5.out h52
          have HIm2 := hid (HIm1.out.keep hb2)
          have HB2 := hid (HB1.out.trans (hb2.mono HB1.out.size))
          have HD2 := hid (HD1.out.below hb2)
          have HRb := hid hrb
          have HRr := hid hrr.at
          have hs2 := hb2.size
          clear hb2 hrb hrr h52
          go_wp2_with fail
          refine (live_any w2).mono ?_
          rintro e w3 ⟨rfl, hb3⟩
          have HIm3 := hid (HIm2.out.keep hb3)
          have HB3 := hid (HB2.out.trans (hb3.mono HB2.out.size))
          have HD3 := hid (HD2.out.below hb3)
          have hs3 := hb3.size
          have hri := rimage_first L r ra rc w3 (by rw [HL.out]; exact below_block hb3 HRb.out (lt_of_heap HRb.out)) (HRr.out.below hb3) (by rw [HL.out]; omega) H5.out
          rw [HL.out] at hri
          have HRi := hid hri
          clear hb3 HIm1 HIm2 HB1 HB2 HD1 HD2 hri
          go_wp2_with fail
          refine HRi.out.mono ?_
          clear HRi
          rintro e w4 ⟨wa, wc, rfl, hwas, hb4⟩
          have HIm4 := hid (HIm3.out.keep hb4)
          have HB4 := hid (HB3.out.trans (hb4.mono HB3.out.size))
          have HD4 := hid (HD3.out.below hb4)
          have HWas := hid hwas
          have HWlo : Hid (W0 ≤ w3.heap.size) := by show W0 ≤ w3.heap.size; omega
          clear hb4 hwas HIm3 HB3 HD3
          go_wp2
          go_loopw [12] (fun i W => ∃ j : Nat, j ≤ k ∧ i = .int .i64 j ∧ Hid (imgTo W w.heap.size W0 False x (loadLen ss) (.slice ia k ic) vs k) ∧ Hid (Keeps (fun i => i < W0) w4 W) ∧ Hid (Below w.heap.size w W)) (fun i _ => k - (intOf i).toNat)
          case atStart => exact ⟨0, by omega, rfl, HIm4.out.loose, Keeps.refl _ _, HB4.out⟩
          case round =>
            obtain ⟨j, hj, rfl, hI, hKp, hBe⟩ := hrel
            by_cases hjk : j < k
            · have hj0 : (0 : Int) ≤ (j : Int) := by omega
              have hj1 : (j : Int) < (k : Int) := by omega
              go_wp2
              go_loopw [13] (fun m W => ∃ q : Nat, q ≤ loadLen ss j ∧ m = .int .i64 q ∧ Hid (imgTo W w.heap.size W0 False x (loadLen ss) (.slice ia k ic) vs k) ∧ Hid (Keeps (fun i => i < W0) w4 W) ∧ Hid (Below w.heap.size w W)) (fun m _ => loadLen ss j - (intOf m).toNat)
              case atStart => exact ⟨0, by omega, rfl, hI.out, hKp.out, hBe.out⟩
              case round =>
                clear hI hKp hBe
                obtain ⟨q, hq, rfl, hI, hKp, hBe⟩ := hrel
                have hl6 := loadLen_le ss j
                obtain ⟨sa, cap, ev, hr⟩ := row_slice hI.out.1
                simp only [Value.slice.injEq, true_and] at ev
                obtain ⟨rfl, rfl⟩ := ev
                obtain ⟨gv, rfl, -, -, hcv⟩ := hr j hjk
                obtain ⟨g, C, e1, e2, e3, e4, e5, -⟩ := hI.out.2 j hjk
                have cv : wr.cell? ⟨gv, j, none⟩ = some (.slice (some ⟨g, 0, none⟩) (loadLen ss j) (loadLen ss j)) := (hcv j hjk).trans e1
                have HS := hid (fun (j : Nat) (u : Value) => imgTo.set (j := j) (u := u) hI.out e4)
                by_cases hql : q < loadLen ss j
                · have hq0 : (0 : Int) ≤ (q : Int) := by omega
                  have hq1 : (q : Int) < (loadLen ss j : Int) := by omega
                  have hqC : q < C.size := by omega
                  have cq : wr.cell? ⟨g, q, none⟩ = some C[q] := by rw [cell_of_block e4]; exact Array.getElem?_eq_getElem hqC
                  have fq : wr.frozen? ⟨g, q, none⟩ = false := frozen_of_block e4 _
                  generalize C[q] = cold at *
                  clear hr hcv e1 e4
                  go_wp2
                  exact ⟨⟨q + 1, by omega, by go_num, HS.out _ _, hKp.out.grown (grown_setCell (grown_refl _ _) _ _) (fun i e => .inl (by rw [← Option.some.inj e]; exact e3)), hBe.out.setCell e2 _⟩, by simp [intOf]; omega⟩
                · obtain rfl : q = loadLen ss j := by omega
                  have hge : ¬ ((loadLen ss j : Int) < (loadLen ss j : Int)) := by omega
                  clear hr hcv e1 e4 HS
                  go_wp2
                  exact ⟨⟨j + 1, by omega, by go_num, hI.out, hKp.out, hBe.out⟩, by simp [intOf]; omega⟩
            · obtain rfl : j = k := by omega
              have hge : ¬ ((j : Int) < (j : Int)) := by omega
              have HDr := hid (HD4.out.keep hKp.out (fun i hi e => by have := HFt.out i hi; omega) (fun i hi e => by have := HFv.out i hi; omega))
              have HWr := hid (HWas.out.keep hKp.out (fun i e => by have := HWlo.out; omega)).at
              have him := image_disk d (freshS (secsOf L)) wr HDr.out
              rw [imgS_fresh, bytesOf_secsOf, show (freshS (secsOf L)).safe.length = j from (length_secsOf L).trans HL.out] at him
              have HIg := hid him
              have HSa := hid (fun u v c c' W h1 h2 => same_all L L u v c c' W h1 h2 (by rw [HL.out]; omega) (fun l hl => by rw [H5.out l hl]; decide))
              rw [decide_eq_true rfl, HL.out] at HSa
              clear him
              go_wp2_with fail
              refine HIg.out.mono ?_
              clear HIg
              rintro e w6 ⟨g6, rfl, hr6, hg6, hb6⟩
              have HD6 := hid (HDr.out.below hb6)
              have HB6 := hid (hBe.out.trans (hb6.mono hBe.out.size))
              have HSa6 := hid (HSa.out (some ⟨g6, 0, none⟩) wa j wc w6 hr6.at (HWr.out.below hb6))
              clear hr6 hb6
              go_wp2_with fail
              refine HSa6.out.mono ?_
              clear HSa6
              rintro e w7 ⟨rfl, hb7⟩
              have HB7 := hid (HB6.out.trans (hb7.mono HB6.out.size))
              have HOp := hid (ops_disk d (freshS (secsOf L)) w7 (HD6.out.below hb7))
              clear hb7
              go_wp2_with fail
              refine HOp.out.mono ?_
              rintro e w9 ⟨rfl, h9⟩
              obtain rfl := h9.symm
              go_wp2
              go_ret
              exact ⟨rfl, HB7.out⟩
end Go.Proofs.Ytpdpmcibeliocaa
