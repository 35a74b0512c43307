/- A log stays when blocks are written that are not its own. -/
import Derived.Test.YtmnepbdbbdcllaaGreatWMid
import Derived.Test.YtmnepbdbbdcllaaGreatWOrderP
namespace Go.Proofs.YtmnepbdbbdcllaaGreat
open Go.RowKit
/-- A disk: a Fork on which nothing was done, or one with ops of its own; all that it writes lies in F. -/
def TwoAt (w : World) (d : DL) (S : DiskS) (F : Nat → Prop) : Prop := (CutIn w d S ∧ S.ops = [] ∧ ∀ i, d.cutFoot S.waits i → F i) ∨ OwnAt w d S F
theorem TwoAt.keepF {w w' : World} {d : DL} {S : DiskS} {F G : Nat → Prop} (h : TwoAt w d S F) (k : Keeps G w w') (hF : ∀ i, F i → ¬ G i) (hv : ∀ i, d.fv.ownBlock = some i → ¬ G i) : TwoAt w' d S F := by
  rcases h with ⟨h, ho, hf⟩ | ⟨h, hf⟩
  · refine .inl ⟨?_, ho, hf⟩
    have hne : ∀ i, d.cutFoot S.waits i → ¬ G i := fun i hi => hF i (hf i hi)
    obtain ⟨h1, ⟨a, e1, e2, e3⟩, ⟨ad, c, e4, e5, e6⟩, h4⟩ := h
    refine ⟨h1.keep k (hne _ (.inl rfl)) (fun i hi => hne i (.inr hi)), ⟨a, e1, e2, fun q hq => ⟨fun j u hu => ?_, Nat.lt_of_lt_of_le (e3 q hq).2 k.size⟩⟩, ⟨ad, c, e4, fun j s hj => ?_, e6⟩, h4⟩
    · rw [ho] at hu; simp at hu
    · exact k.cell (e5 j s hj) (by rw [add_block]; exact hv _ (by rw [e4]; rfl))
  · exact .inr ⟨h.keep k (fun i hi => hF i (hf i hi)) hv, hf⟩
theorem TwoAt.any {w : World} {d : DL} {S : DiskS} {F : Nat → Prop} (h : TwoAt w d S F) : AnyAt w d S F := by
  rcases h with ⟨h, _, hf⟩ | ⟨h, hf⟩
  · exact .inl ⟨h, hf⟩
  · exact .inr ⟨h, hf⟩
theorem TwoAt.below {w w' : World} {d : DL} {S : DiskS} {F : Nat → Prop} (h : TwoAt w d S F) (k : Below w.heap.size w w') : TwoAt w' d S F := h.keepF (G := fun _ => False) (Keeps.of_below k) (fun _ _ h => h) (fun _ _ h => h)
set_option maxRecDepth 100000 in
set_option maxHeartbeats 2000000 in
theorem open_zero_two (d : DL) (S : DiskS) (size : Nat) (w : World) (h : DiskIn w d S) (hB : S.ops.length ≤ 4096) (h1 : 1 ≤ size) (h2 : size + 2 ≤ S.safe.length) (hz : (seenS S.safe S.waits 0).data.toList = zN 512) :
    Calls Tryz.prog 26 #[.pointer (some ⟨d.p, 0, none⟩), .int .i64 size] w fun e w' => Below w.heap.size w w' ∧ ∃ p d', e = .returned (.tuple #[.pointer (some ⟨p, 0, none⟩), .int .i64 0]) ∧ w.heap.size ≤ p ∧
      LogIn w' p d' S size 0 (fun i => w.heap.size ≤ i ∧ i < p) ∧ CutIn w' d' S ∧ (∀ i, d'.cutFoot S.waits i → w.heap.size ≤ i ∧ i < p) ∧ d'.fv = d.fv := by
  have hm := h.plates.most
  have HSe := hid (sectors_disk d S w h)
  have HFk := hid (fork_disk_fv d S w h hB)
  have HZ := hid hz
  have hs1 : (1 : Int) ≤ (size : Int) := by omega
  have hs2 : (size : Int) ≤ (S.safe.length : Int) - 2 := by omega
  clear h hz
  go_enter Tryz.func26, Tryz.ntmps26
  go_wp2_with fail
  refine HSe.out.mono ?_
  clear HSe
  rintro e w1 ⟨rfl, hw1⟩
  obtain rfl := hw1.symm
  go_wp2_with fail
  refine HFk.out.mono ?_
  clear HFk
  rintro e w2 ⟨hb2, d2, rfl, hC, hf, hfv2⟩
  have HFv := hid hfv2
  have HC := hid hC
  have HF := hid hf
  have HB2 := hid hb2
  have HFl : Hid (∀ i, d2.cutFoot S.waits i → i < w2.heap.size) := fun i hi => hi.elim (fun e => by rw [e]; exact lt_of_heap hC.rd.heap) (fun e => hC.rd.plates.foot_lt e)
  have HNu := hid (fun W hW => numbers_zero d2 S size W (hC.rd.below (w' := W) hW) HZ.out)
  unfold layV at HNu
  clear hC hf hb2 hfv2
  have HA := hid ((Below.refl w2.heap.size w2).alloc (Nat.le_refl _) (.cells #[.pointer (some ⟨d2.p, 0, none⟩), .int .i64 size] 67))
  have Hb := hid (block_new w2 (.cells #[.pointer (some ⟨d2.p, 0, none⟩), .int .i64 size] 67))
  go_wp2_with fail
  generalize w2.alloc (.cells #[.pointer (some ⟨d2.p, 0, none⟩), .int .i64 size] 67) = wA at *
  refine (HNu.out _ HA.out).mono ?_
  clear HNu
  rintro e w3 ⟨rfl, hb3⟩
  have hb := below_block hb3 Hb.out (lt_of_heap Hb.out)
  have c0 : w3.cell? ⟨w2.heap.size, 0, none⟩ = some (.pointer (some ⟨d2.p, 0, none⟩)) := cell_of_block hb 0
  have c1 : w3.cell? ⟨w2.heap.size, 1, none⟩ = some (.int .i64 size) := cell_of_block hb 1
  have hs3 := hb3.size
  have hsA := HA.out.size
  have hs22 := HB2.out.size
  have HC3 := hid (HC.out.below (HA.out.trans (hb3.mono HA.out.size)))
  have HB3 := hid (HB2.out.trans ((HA.out.trans (hb3.mono HA.out.size)).mono HB2.out.size))
  clear hb3 hb Hb HC HA
  go_wp2
  go_returns
  have hal := (Below.refl w3.heap.size w3).alloc (Nat.le_refl _) (.cells #[.pointer (some ⟨d2.p, 0, none⟩), .int .i64 size, .int .i64 0] 69)
  have hbd : ∀ i, d2.cutFoot S.waits i → w.heap.size ≤ i ∧ i < w3.heap.size := fun i hi => ⟨HF.out i hi, by have := HFl.out i hi; omega⟩
  exact ⟨HB3.out.trans (hal.mono HB3.out.size), w3.heap.size, d2, rfl, HB3.out.size, ⟨block_new _ _, .inl ⟨HC3.out.below hal, hbd⟩, fun h => by omega⟩, HC3.out.below hal, hbd, HFv.out⟩
set_option maxRecDepth 100000 in
set_option maxHeartbeats 1000000 in
/-- law03's open, and where all lies. -/
theorem wopen_two (n size : Nat) (h1 : 1 ≤ size) (h2 : size + 2 ≤ n) (hn : n ≤ 4096) (w : World) :
    Calls Tryz.prog 5 #[.int .i64 n, .int .i64 size] w fun e w' => Below w.heap.size w w' ∧ ∃ p d q, e = .returned (.tuple #[.pointer (some ⟨p, 0, none⟩), .pointer (some ⟨q, 0, none⟩), .bool true]) ∧ w.heap.size ≤ p ∧
      LogIn w' p d (freshN n) size 0 (fun i => w.heap.size ≤ i ∧ i < p) ∧ CutIn w' d (freshN n) ∧ (∀ i, d.cutFoot (freshN n).waits i → w.heap.size ≤ i ∧ i < p) ∧ (∀ i, d.fv.ownBlock = some i → w.heap.size ≤ i ∧ i < p) := by
  go_enter Tryz.func5, Tryz.ntmps5
  go_wp2_with fail
  refine (new_disk n (by omega) hn _).mono ?_
  rintro e w1 ⟨d, rfl, hD, -, hfv0, hB⟩
  have HFv0 := hid hfv0
  have HFl0 : Hid (∀ i, d.fv.ownBlock = some i → i < w1.heap.size) := fun i hi => by
    obtain ⟨ad, c, e1, e2, _⟩ := hD.first
    have hpos : 0 < (freshS (List.replicate n blankS)).first.length := by show 0 < (List.replicate n blankS).length; simp; omega
    have h00 := e2 0 _ (List.getElem?_eq_getElem hpos)
    have h1 := World.block_lt_of_cell? w1 _ h00
    rw [add_block] at h1
    rw [e1] at hi
    obtain rfl := Option.some.inj hi
    exact h1
  have HD : Hid (DiskIn w1 d (freshN n)) := hD
  have HB1 := hid hB
  have HRn := hid (rnew_ok n (by omega) hn w1)
  clear hD hB hfv0
  go_wp2_with fail
  refine HRn.out.mono ?_
  clear HRn
  rintro e w2 ⟨rfl, hb2, fv, hR2⟩
  have HR2 := hid hR2
  have HB2 := hid (HB1.out.trans (hb2.mono HB1.out.size))
  have hs12 := hb2.size
  have hs01 := HB1.out.size
  have hOp := open_zero_two d (freshN n) size w2 (HD.out.below hb2) (by show 0 ≤ 4096; decide) h1 (by rw [freshN_len]; exact h2) (by rw [show ((0 : Int)) = ((0 : Nat) : Int) from rfl, freshN_seen n 0 (by omega)]; exact blank_zeros)
  have HOp := hid hOp
  clear hb2 hR2 HD hOp
  go_wp2_with fail
  refine HOp.out.mono ?_
  clear HOp
  rintro e w3 ⟨hb3, p, d3, rfl, hp3, hL3, hC3, hcf3, hfv3⟩
  have HC3 := hid hC3
  have HCf := hid hcf3
  have HFv3 := hid hfv3
  clear hC3 hcf3 hfv3
  have HL3 := hid hL3
  have HB3 := hid (HB2.out.trans (hb3.mono HB2.out.size))
  have hs23 := hb3.size
  have hpl := lt_of_heap hL3.heap
  have hR3 := HR2.out.keep (Keeps.of_below (F := fun _ => False) hb3) (fun _ _ h => h) (fun h => h)
  have hRo := ropen_zero w1.heap.size fv (.slice none 0 0) [] _ (rfresh n) size w3 hR3 (fun i hi => by omega) (okR_fresh n hn) (by show 0 ≤ 1000000; decide) h1 (by rw [rfresh_length]; exact h2) (by
    show (rfresh n).first[0]? = some zeros
    rw [List.getElem?_eq_getElem (by rw [rfresh_length]; omega), rfresh_at])
  have HRo := hid hRo
  clear hb3 hL3 hR3 hRo HR2
  go_wp2_with fail
  refine HRo.out.mono ?_
  clear HRo
  rintro e w4 ⟨hb4, q, r, rfl, hq, hr, hRl⟩
  have HC4 := hid (HC3.out.below hb4)
  have HL4 : Hid (LogIn w4 p d3 (freshN n) size 0 (fun i => w2.heap.size ≤ i ∧ i < p)) := ⟨below_block hb4 HL3.out.heap (lt_of_heap HL3.out.heap), HL3.out.disk.below hb4, HL3.out.off⟩
  have HB4 := hid (HB3.out.trans (hb4.mono HB3.out.size))
  clear hb4 hRl HL3
  go_wp2
  go_returns
  refine ⟨HB4.out, p, d3, q, rfl, by omega, ⟨HL4.out.heap, HL4.out.disk.mono (fun i hi => ⟨by omega, hi.2⟩), fun h => by omega⟩, HC4.out, fun i hi => ?_, fun i hi => ?_⟩
  · have := HCf.out i hi
    omega
  · rw [HFv3.out] at hi
    have h1 := HFv0.out i hi
    have h2 := HFl0.out i hi
    omega
end Go.Proofs.YtmnepbdbbdcllaaGreat
