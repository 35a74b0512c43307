/- The reference's Waiting. -/
import Derived.Test.YtoeiodiadanhkaaGreatRWaits
namespace Go.Proofs.YtoeiodiadanhkaaGreat
open Go.RowKit
/-- The first k sectors' that wait. -/
def rKeys (f : Nat → Nat) (k : Nat) : List Int := ((List.range k).filter (fun n : Nat => decide (0 < f n))).map (fun n : Nat => (n : Int))
def rCounts (f : Nat → Nat) (k : Nat) : List Int := ((List.range k).filter (fun n : Nat => decide (0 < f n))).map (fun n : Nat => (f n : Int))
theorem rKeys_step (f : Nat → Nat) (k : Nat) : rKeys f (k + 1) = if 0 < f k then rKeys f k ++ [(k : Int)] else rKeys f k := by
  unfold rKeys
  rw [List.range_succ, List.filter_append]
  by_cases h : 0 < f k <;> simp [h]
theorem rCounts_step (f : Nat → Nat) (k : Nat) : rCounts f (k + 1) = if 0 < f k then rCounts f k ++ [(f k : Int)] else rCounts f k := by
  unfold rCounts
  rw [List.range_succ, List.filter_append]
  by_cases h : 0 < f k <;> simp [h]
theorem length_rKeys (f : Nat → Nat) (k : Nat) : (rKeys f k).length ≤ k := by
  unfold rKeys
  rw [List.length_map]
  exact Nat.le_trans (List.length_filter_le _ _) (by simp)
theorem length_rCounts (f : Nat → Nat) (k : Nat) : (rCounts f k).length = (rKeys f k).length := by simp [rKeys, rCounts]
/-- How many writes of sector n wait. -/
def rWait (R : RefS) (n : Nat) : Nat := waitsIn R.l (n : Int) (flushedTo R.l R.l.length) R.l.length
set_option maxRecDepth 100000 in
set_option maxHeartbeats 2000000 in
theorem rwaiting_any (r : Nat) (fv lv : Value) (vs : List Value) (Rd : Nat → Prop) (R : RefS) (w : World) (h : RefIn w r fv lv vs Rd R) (hm : R.l.length ≤ 1000000) (hn : R.first.length ≤ 4096) :
    Calls Tryz.prog 52 #[.pointer (some ⟨r, 0, none⟩)] w fun e w' => ∃ v1 v2, e = .returned (.tuple #[v1, v2]) ∧
      w'.ownsRow w.heap.size 3 1 v1 (rKeys (rWait R) R.first.length).length ((rKeys (rWait R) R.first.length).map encZ) ∧
      w'.ownsRow w.heap.size 3 1 v2 (rKeys (rWait R) R.first.length).length ((rCounts (rWait R) R.first.length).map encZ) ∧ Below w.heap.size w w' := by
  obtain ⟨i0, hi, hz0, hz1, hz2⟩ := info_parts infoInt
  have HI := hid hi
  have H := hid h
  clear h hi
  go_enter Tryz.func52, Tryz.ntmps52
  go_wp2
  have HKs := hid (rKeys_step (rWait R))
  have HCs := hid (rCounts_step (rWait R))
  have HKl := hid (length_rKeys (rWait R))
  go_loopw [4, 5, 6] (fun v u i wr => ∃ k : Nat, k ≤ R.first.length ∧ i = .int .i64 k ∧ Hid (wr.ownsRow w.heap.size 3 1 v (rKeys (rWait R) k).length ((rKeys (rWait R) k).map encZ)) ∧ Hid (wr.ownsRow w.heap.size 3 1 u (rKeys (rWait R) k).length ((rCounts (rWait R) k).map encZ)) ∧
    Hid (∀ x, v.ownBlock = some x → u.ownBlock ≠ some x) ∧ Hid (Below w.heap.size w wr)) (fun _ _ i _ => R.first.length - (intOf i).toNat)
  case atStart => exact ⟨0, by omega, rfl, World.ownsRow_nil _ _ _ _, World.ownsRow_nil _ _ _ _, fun x e => by simp [Value.ownBlock] at e, Below.refl _ _⟩
  case round =>
    obtain ⟨k, hk, rfl, hS, hU, hD, hB⟩ := hrel
    have hH := H.out.below hB.out
    obtain ⟨fa, fc, hfv, -⟩ := hH.first
    have t0 : wr.cell? ⟨r, 0, none⟩ = some (.slice fa R.first.length fc) := by rw [cell_of_block hH.heap, ← hfv]; rfl
    by_cases hlt : k < R.first.length
    · have hk0 : (0 : Int) ≤ (k : Int) := by omega
      have hk1 : (k : Int) < (R.first.length : Int) := by omega
      have HW := hid (rwaits_any r fv lv vs Rd R (k : Int) wr hH hm)
      have HK := hid (HKs.out k)
      have HC := hid (HCs.out k)
      have hkl := HKl.out k
      have hcnt : waitsIn R.l (k : Int) (flushedTo R.l R.l.length) R.l.length = rWait R k := rfl
      have hwl : rWait R k ≤ R.l.length := waitsIn_le _ _ _ _
      rw [hcnt] at HW
      generalize rWait R k = m at *
      generalize hkk : (rKeys (rWait R) k).length = kk at *
      clear hcnt hfv hH
      go_wp2_with fail
      refine HW.out.mono ?_
      clear HW
      rintro e w1 ⟨oa, oc, rfl, hb1⟩
      have HS1 := hid ((Keeps.of_below (F := fun _ => False) hb1).row hS.out (fun _ _ e => e))
      have HU1 := hid ((Keeps.of_below (F := fun _ => False) hb1).row hU.out (fun _ _ e => e))
      have HB1 := hid (hB.out.trans (hb1.mono hB.out.size))
      clear hb1 hS hU hB
      by_cases hm0 : 0 < m
      · have hm1 : (0 : Int) < (m : Int) := by omega
        have hside : u5.ownBlock = none ∨ u5.ownBlock ≠ u4.ownBlock := by
          cases hx : u5.ownBlock with
          | none => exact .inl rfl
          | some x => exact .inr (fun e => hD.out x e.symm hx)
        simp only [hm0, if_true] at HK HC
        have HUlt := hid (fun x e => (HU1.out.lt x e).2)
        go_wp2_with (first
          | (refine wpList_append_lies _ rfl (.tmp 27) (.tmp 29) 30 rfl w.heap.size 3 i0 (.int .i64 0) 1 8 Tryz.underlying30 HI.out hz0 hz1 hz2 rfl (by omega) u4 kk _ rfl (HS1.out.alloc _) ⟨w1.heap.size, 0, none⟩ 1 1 [.int .i64 k] rfl rfl (World.news_of_block (cs := #[.int .i64 k]) (block_new w1 _)) (by intro u hu; rw [List.mem_singleton.1 hu]; rfl) (by omega) (by unfold maxLen; omega) (by omega) (by have := HB1.out.size; simp; omega) (w1.heap.size + 1) (by simp) ?_; intro g2 cap2 w2 hown hgr hat hlt2; have HO := hid hown; have HG := hid hgr; have HAt := hid hat; have HU2 := hid ((HU1.out.alloc (.cells #[.int .i64 k] 3)).kept hgr hside); have HB2 := hid ((HB1.out.alloc HB1.out.size (.cells #[.int .i64 k] 3)).trans (below_of_row hgr (HB1.out.alloc HB1.out.size _).size (fun i e => (HS1.out.lt i e).1))); clear hown hgr hat)
          | (refine wpList_append_lies _ rfl (.tmp 31) (.tmp 33) 30 rfl w.heap.size 3 i0 (.int .i64 0) 1 8 Tryz.underlying30 HI.out hz0 hz1 hz2 rfl (by omega) u5 kk _ rfl (HU2.out.alloc _) ⟨w2.heap.size, 0, none⟩ 1 1 [.int .i64 m] rfl rfl (World.news_of_block (cs := #[.int .i64 m]) (block_new w2 _)) (by intro u hu; rw [List.mem_singleton.1 hu]; rfl) (by omega) (by unfold maxLen; omega) (by omega) (by have := HB2.out.size; simp; omega) (w2.heap.size + 1) (by simp) ?_; intro g3 cap3 w3 hown hgr hat hlt2; have HO3 := hid hown; have HG3 := hid hgr; have HAt3 := hid hat; clear hown hgr hat))
        have hng : ∀ x, u5.ownBlock = some x → g2 ≠ x := fun x e e2 => by
          subst e2
          rcases HAt.out with h1 | h1
          · exact hD.out _ h1 e
          · have := HUlt.out _ e; omega
        have hS3 := (HO.out.alloc (.cells #[.int .i64 m] 3)).kept HG3.out (.inr (fun e => hng g2 e.symm rfl))
        have hlen : (rKeys (rWait R) (k + 1)).length = kk + 1 := by rw [HK.out]; simp [hkk]
        have hg2 := (HO.out.lt g2 rfl).2
        have hba := HB2.out.alloc HB2.out.size (.cells #[.int .i64 m] 3)
        refine ⟨⟨k + 1, by omega, by go_num, ?_, ?_, fun x e e' => ?_, hba.trans (below_of_row HG3.out hba.size (fun i e => (HU2.out.lt i e).1))⟩, by simp [intOf]; omega⟩
        · rw [hlen, HK.out, List.map_append]; exact hS3
        · rw [hlen, HC.out, List.map_append]; exact HO3.out
        · have e1 : g2 = x := Option.some.inj e
          have e2 : g3 = x := Option.some.inj e'
          rcases HAt3.out with h1 | h1
          · exact hng g3 h1 (by omega)
          · omega
      · have hm1 : ¬ ((0 : Int) < (m : Int)) := by omega
        simp only [hm0, if_false] at HK HC
        go_wp2
        exact ⟨⟨k + 1, by omega, by go_num, by rw [HK.out, hkk]; exact HS1.out, by rw [HK.out, HC.out, hkk]; exact HU1.out, hD.out, HB1.out⟩, by simp [intOf]; omega⟩
    · obtain rfl : k = R.first.length := by omega
      have hge : ¬ ((R.first.length : Int) < (R.first.length : Int)) := by omega
      clear hfv hH
      go_wp2
      go_returns
      exact ⟨u4, u5, rfl, hS.out, hU.out, hB.out⟩
end Go.Proofs.YtoeiodiadanhkaaGreat
