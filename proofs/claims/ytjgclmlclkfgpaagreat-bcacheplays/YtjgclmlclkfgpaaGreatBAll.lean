/- law04's all: all pages as they are now. -/
import Derived.Test.YtjgclmlclkfgpaaGreatAllP
namespace Go.Proofs.YtjgclmlclkfgpaaGreat
open Go.RowKit
section
variable {p : Nat} {d : DL} {S : DiskS} {size rec : Nat} {F : Nat → Prop}
set_option maxRecDepth 100000 in
set_option maxHeartbeats 2000000 in
theorem b4all_any (w : World) (h : LogIn w p d S size rec F) (hs : size + 1 ≤ S.safe.length) (h5 : ∀ n, n < S.safe.length → (secL S n).length = 512) :
    Calls Tryz.prog 32 #[.pointer (some ⟨p, 0, none⟩)] w fun e w' => Below w.heap.size w w' ∧ ∃ a c, e = .returned (.slice a (allL S size).length c) ∧ rowsFrom w' w.heap.size a (allL S size) := by
  obtain ⟨i0, hi, hz0, hz1, hz2⟩ := info_parts infoRow
  have HI := hid hi
  have H := hid h
  have H5 := hid h5
  have hm := h.disk.rd.plates.most
  have hN : pagesS S size ≤ 4096 := by unfold pagesS; omega
  have HPg := hid (fun W (hW : Below w.heap.size w W) => log_pages W (h.below hW) hs)
  have HRd := hid (fun n hn W (hW : Below w.heap.size w W) => log_read n W (h.below hW) hs hn)
  have HLen := hid (length_allL S size)
  have HAt := hid (allL_at S size)
  have HSec : Hid (∀ n, n < pagesS S size → (seenS S.safe S.waits (1 + (size : Int) + (n : Int))).data.toList = secL S (1 + size + n) ∧ (seenS S.safe S.waits (1 + (size : Int) + (n : Int))).size = 512) := fun n hn => by
    have e : (1 + (size : Int) + (n : Int)) = ((1 + size + n : Nat) : Int) := by omega
    have := h5 (1 + size + n) (by unfold pagesS at hn; omega)
    unfold secL at this
    rw [e]
    exact ⟨rfl, by simpa using this⟩
  clear hi h h5
  obtain ⟨L, hL⟩ : ∃ L, L = allL S size := ⟨_, rfl⟩
  rw [← hL] at HLen HAt ⊢
  clear hL
  obtain ⟨P, hP⟩ : ∃ P, P = pagesS S size := ⟨_, rfl⟩
  rw [← hP] at HPg HRd HLen hN HSec
  clear hP
  go_enter Tryz.func32, Tryz.ntmps32
  go_wp2
  go_loopw [3, 4] (fun v i wr => ∃ (k : Nat) (vs : List Value), k ≤ min P 100 ∧ i = .int .i64 k ∧ Hid (copiedTo wr w.heap.size v vs L k) ∧ Hid (Below w.heap.size w wr)) (fun _ i _ => min P 100 - (intOf i).toNat)
  case atStart => exact ⟨0, [], by omega, rfl, ⟨World.ownsRow_nil _ _ _ _, fun i hi h => by omega⟩, Below.refl _ _⟩
  case round =>
    obtain ⟨k, vs, hk, rfl, hM, hB⟩ := hrel
    go_wp2_with fail
    refine (HPg.out wr hB.out).mono ?_
    rintro e w0 ⟨rfl, hb0⟩
    have hB0 := hB.out.trans (hb0.mono hB.out.size)
    have hM0 : copiedTo w0 w.heap.size u3 vs L k := ⟨(Keeps.of_below (F := fun _ => False) hb0).row hM.out.1 (fun _ _ e => e), fun i hi hik => by
      obtain ⟨g, cp, h1, h2, h3, h4, h5⟩ := hM.out.2 i hi hik
      exact ⟨g, cp, h1, h2, Nat.lt_of_lt_of_le h3 hb0.size, h4, h5.below hb0⟩⟩
    have HB0 := hid hB0
    have HM0 := hid hM0
    clear hb0 hB0 hM0 hB hM
    by_cases hlt : k < min P 100
    · have hk0 : (0 : Int) ≤ (k : Int) := by omega
      have hk1 : (k : Int) < (P : Int) := by omega
      have hk2 : (k : Int) < 100 := by omega
      have hkL : k < L.length := by rw [HLen.out]; exact hlt
      obtain ⟨hsec1, hsec2⟩ := HSec.out k (by omega)
      have hrd := HRd.out k (by omega) w0 HB0.out
      rw [hsec1, hsec2] at hrd
      have HRk := hid hrd
      have hl5 : (L[k]).length = 512 := by rw [HAt.out k hkL, ← hsec1]; simpa using hsec2
      have HSt := hid (fun w1 w3 g cap g3 cap3 o x1 x2 x3 x4 x5 x6 x7 => copiedTo_step (w1 := w1) (w3 := w3) (g := g) (cap := cap) (g3 := g3) (cap3 := cap3) (o := o) HM0.out hkL HB0.out.size x1 x2 x3 x4 x5 x6 x7)
      rw [hl5] at HSt
      have HLk := hid (HAt.out k hkL)
      have HMr := hid HM0.out.1
      have HMlt := hid (fun i e => (HM0.out.1.lt i e).1)
      clear hrd hsec1 hsec2 hl5 HM0
      go_wp2_with fail
      refine HRk.out.mono ?_
      clear HRk
      rintro e w1 ⟨g, cap, rfl, hg1, hb1, hB1⟩
      have HB1 := hid hB1
      have HR1 := hid ((Keeps.of_below (F := fun _ => False) hB1).row HMr.out (fun _ _ e => e))
      have hg2 : g < w1.heap.size := World.block_lt_of_cell? w1 _ (hb1 0 (by rw [← HLk.out]; have := HSec.out k (by omega); rw [HLk.out, ← this.1]; have h9 := this.2; simp at h9 ⊢; omega))
      have Hb1 : Hid (bytesIn w1 (some ⟨g, 0, none⟩) L[k]) := by unfold Hid; rw [HLk.out]; exact bytesIn_of hb1
      have hsB := HB0.out.size
      clear hB1 hb1
      go_wp2_with (refine wpList_append_lies _ rfl (.tmp 23) (.tmp 25) 36 rfl w.heap.size 49 i0 (.slice none 0 0) 1 24 Tryz.underlying36 HI.out hz0 hz1 hz2 rfl (by omega) u3 k vs rfl (HR1.out.alloc _) ⟨w1.heap.size, 0, none⟩ 1 1 [.slice (some ⟨g, 0, none⟩) 512 cap] rfl rfl (World.news_of_block (cs := #[.slice (some ⟨g, 0, none⟩) 512 cap]) (block_new w1 _)) (by intro u hu; rw [List.mem_singleton.1 hu]; rfl) (by omega) (by unfold maxLen; omega) (by omega) (by have := HB1.out.size; simp; omega) (w1.heap.size + 1) (by simp) ?_; intro g3 cap3 w3 hown hgr hat hlt2; have HO := hid hown; have HG := hid hgr; have HAt2 := hid hat; clear hown hgr hat hlt2)
      have hbw := HB0.out.trans (HB1.out.mono HB0.out.size)
      have hba := hbw.alloc hbw.size (.cells #[.slice (some ⟨g, 0, none⟩) 512 cap] 49)
      exact ⟨⟨k + 1, _, by omega, by go_num, HSt.out w1 w3 g cap g3 cap3 _ HB1.out hg1 hg2 Hb1.out HO.out HG.out HAt2.out, hba.trans (below_of_row HG.out hba.size HMlt.out)⟩, by simp [intOf]; omega⟩
    · have hkm : k = min P 100 := by omega
      have hkL : k = L.length := by rw [HLen.out]; exact hkm
      obtain ⟨a, c, hv, hrow⟩ := copiedTo_end (hkL ▸ HM0.out)
      have HEnd := hid (And.intro hv hrow)
      by_cases hg : k < P
      · have hge : ((k : Int) < (P : Int)) := by omega
        have hge2 : ¬ ((k : Int) < 100) := by omega
        clear hkm hkL hv hrow hlt hg
        go_wp2
        go_ret
        exact ⟨HB0.out, a, c, by rw [HEnd.out.1]; rfl, HEnd.out.2⟩
      · have hge : ¬ ((k : Int) < (P : Int)) := by omega
        clear hkm hkL hv hrow hlt hg
        go_wp2
        go_ret
        exact ⟨HB0.out, a, c, by rw [HEnd.out.1]; rfl, HEnd.out.2⟩
end
end Go.Proofs.YtjgclmlclkfgpaaGreat
