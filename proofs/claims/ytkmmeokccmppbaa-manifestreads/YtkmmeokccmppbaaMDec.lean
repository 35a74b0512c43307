/- Decode of the manifest's package. -/
import Derived.Test.YtkmmeokccmppbaaMRead
namespace Go.Proofs.Ytkmmeokccmppbaa
open Go.RowKit
/-- What decoding answers. -/
def DecTo (w w' : World) (bs : List UInt8) (e : Ending) : Prop :=
  ((dec bs = none ∧ e = .returned (.tuple #[.agg #[str [], str [], .slice none 0 0], .int .i64 3])) ∨
   ∃ m la lc, dec bs = some m ∧ e = .returned (.tuple #[.agg #[str m.os, str m.arch, .slice la m.ls.length lc], .int .i64 0]) ∧ layersAt w' la m.ls ∧ ∀ b o, la = some ⟨b, o, none⟩ → w.heap.size ≤ b) ∧ Below w.heap.size w w'
set_option maxHeartbeats 1000000 in
set_option maxRecDepth 100000 in
theorem decode_any (w : World) (v : Value) (bs : List UInt8) (hr : Rd w v bs) : Calls Try.prog 9 #[v] w fun e w' => DecTo w w' bs e := by
  have hB0 : Below w.heap.size w (w.alloc (.cells #[str [], str [], .slice none 0 0] 26)) := (Below.refl _ _).alloc (Nat.le_refl _) _
  have HR := hid (read_any _ v bs (hr.up hB0))
  have HB0 := hid hB0
  have HM0 : Hid ((w.alloc (.cells #[str [], str [], .slice none 0 0] 26)).heap[w.heap.size]? = some (.cells #[str [], str [], .slice none 0 0] 26 (0, 0))) := block_new w _
  have hs0 : w.heap.size < (w.alloc (.cells #[str [], str [], .slice none 0 0] 26)).heap.size := by simp
  clear hB0 hr
  go_enter Try.func9, Try.ntmps9
  go_wp2_with fail
  refine HR.out.mono ?_
  clear HR
  generalize w.alloc (.cells #[str [], str [], .slice none 0 0] 26) = w1 at *
  rintro e w2 ⟨⟨hp, s1, s2, a, n, c, rfl⟩ | ⟨m, la, lc, hp, rfl, hl, hn, hlt⟩, hB2⟩
  · have HD : Hid (dec bs = none) := by unfold Hid dec; rw [hp]
    have HM2 := hid ((hB2.block w.heap.size hs0).trans HM0.out)
    have HB2 := hid (HB0.out.trans (hB2.mono (by omega)))
    have hs2 := lt_of_heap HM2.out
    clear hp hB2 HM0 HB0
    have H1 := hid (block_alloc HM2.out (.cells #[str s1, str s2, .slice a n c] 26))
    have H2 := hid (HB2.out.alloc (by omega) (.cells #[str s1, str s2, .slice a n c] 26))
    go_wp2_with (refine wpList_store_block rfl 26 (.tmp 2) (.tmp 18) rfl w.heap.size #[str [], str [], .slice none 0 0] rfl rfl _ 26 H1.out rfl infoM (oneM _ _ _ _ _) ?_; intro w6 hg6 hb6 hz6; have H6 := hid hb6; have HB6 := hid (H2.out.grown hg6 H2.out.size (fun k hk => by cases hk; exact Nat.le_refl _)); clear hg6 hb6 hz6)
    refine bodyPost_ret (results_cell_slot Try.results9 _ _ rfl H6.out _ Try.underlying26 rfl infoM) rfl ⟨.inl ⟨HD.out, rfl⟩, HB6.out⟩
  · have HM2 := hid ((hB2.block w.heap.size hs0).trans HM0.out)
    have HB2 := hid (HB0.out.trans (hB2.mono (by omega)))
    have hs2 := lt_of_heap HM2.out
    clear hB2 HM0 HB0
    have HM3 := hid (block_alloc HM2.out (.cells #[str m.os, str m.arch, .slice la m.ls.length lc] 26))
    have HB3 := hid (HB2.out.alloc (by omega) (.cells #[str m.os, str m.arch, .slice la m.ls.length lc] 26))
    have HN3 : Hid ((w2.alloc (.cells #[str m.os, str m.arch, .slice la m.ls.length lc] 26)).heap[w2.heap.size]? = some (.cells #[str m.os, str m.arch, .slice la m.ls.length lc] 26 (0, 0))) := block_new w2 _
    have HL3 := hid (hl.below ((Below.refl _ _).alloc (Nat.le_refl _) (.cells #[str m.os, str m.arch, .slice la m.ls.length lc] 26)))
    have HRt := hid (right_any m.os m.arch la m.ls.length lc (by omega) (w2.alloc (.cells #[str m.os, str m.arch, .slice la m.ls.length lc] 26)))
    have hs3 : w2.heap.size < (w2.alloc (.cells #[str m.os, str m.arch, .slice la m.ls.length lc] 26)).heap.size := by simp
    clear hl HM2 HB2
    go_wp2_with fail
    refine HRt.out.mono ?_
    clear HRt
    generalize w2.alloc (.cells #[str m.os, str m.arch, .slice la m.ls.length lc] 26) = w3 at *
    rintro e w4 ⟨rfl, hB4⟩
    rw [← err_right]
    have HM4 := hid ((hB4.block w.heap.size (by omega)).trans HM3.out)
    have HN4 := hid ((hB4.block w2.heap.size (by omega)).trans HN3.out)
    have HB4 := hid (HB3.out.trans (hB4.mono (by omega)))
    have HL4 := hid (HL3.out.below hB4)
    clear hB4 HM3 HN3 HB3 HL3
    by_cases h0 : m.err = 0
    · have HD : Hid (dec bs = some m) := by unfold Hid dec; rw [hp]; simp [h0]
      rw [h0]
      have c0 : w4.cell? ⟨w2.heap.size, 0, none⟩ = some (str m.os) := cell_of_block HN4.out 0
      have c1 : w4.cell? ⟨w2.heap.size, 1, none⟩ = some (str m.arch) := cell_of_block HN4.out 1
      have c2 : w4.cell? ⟨w2.heap.size, 2, none⟩ = some (.slice la m.ls.length lc) := cell_of_block HN4.out 2
      clear hp h0
      go_wp2_with (refine wpList_store_block rfl 26 (.tmp 2) (.tmp 19) rfl w.heap.size #[str m.os, str m.arch, .slice la m.ls.length lc] rfl rfl _ 26 HM4.out rfl infoM (oneM _ _ _ _ _) ?_; intro w6 hg6 hb6 hz6; have H6 := hid hb6; have HG6 := hid hg6; have HB6 := hid (HB4.out.grown hg6 HB4.out.size (fun k hk => by cases hk; exact Nat.le_refl _)); clear hg6 hb6 hz6)
      refine bodyPost_ret (results_cell_slot Try.results9 _ _ rfl H6.out _ Try.underlying26 rfl infoM) rfl ⟨.inr ⟨m, la, lc, HD.out, rfl, ?_, fun b o e => by have := hlt b o e; omega⟩, HB6.out⟩
      refine ⟨HL4.out.1, fun i hi => ?_⟩
      obtain ⟨b, o, e, hb, hr⟩ := HL4.out.2 i hi
      have hbw := hlt b o e
      exact ⟨b, o, e, Nat.lt_of_lt_of_le hb HG6.out.size, fun j v hj => (World.cell?_of_block (w := w4) (HG6.out.block b hb (fun e => by cases e; omega))).trans (hr j v hj)⟩
    · have HD : Hid (dec bs = none) := by unfold Hid dec; rw [hp]; simp [h0]
      have hne : (m.err != 0) = true := bne_iff_ne.2 h0
      clear hp h0
      generalize m.err = er at *
      go_wp2_with (refine wpList_store_block rfl 26 (.tmp 2) (.tmp 18) rfl w.heap.size #[str [], str [], .slice none 0 0] rfl rfl _ 26 HM4.out rfl infoM (oneM _ _ _ _ _) ?_; intro w6 hg6 hb6 hz6; have H6 := hid hb6; have HB6 := hid (HB4.out.grown hg6 HB4.out.size (fun k hk => by cases hk; exact Nat.le_refl _)); clear hg6 hb6 hz6)
      refine bodyPost_ret (results_cell_slot Try.results9 _ _ rfl H6.out _ Try.underlying26 rfl infoM) rfl ⟨.inl ⟨HD.out, rfl⟩, HB6.out⟩
end Go.Proofs.Ytkmmeokccmppbaa
