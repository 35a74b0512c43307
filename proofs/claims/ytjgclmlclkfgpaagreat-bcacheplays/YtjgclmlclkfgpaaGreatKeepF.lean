/- A log stays when blocks are written that are not its own. -/
import Derived.Test.YtjgclmlclkfgpaaGreatWMid
import Derived.Test.YtjgclmlclkfgpaaGreatWOrderP
namespace Go.Proofs.YtjgclmlclkfgpaaGreat
open Go.RowKit
/-- A disk: a Fork on which nothing was done, or one with ops of its own; all that it writes lies in F. -/
def TwoAt (w : World) (d : DL) (S : DiskS) (F : Nat → Prop) : Prop := (CutIn w d S ∧ S.ops = [] ∧ ∀ i, d.cutFoot S.waits i → F i) ∨ OwnAt w d S F
theorem TwoAt.keepF {w w' : World} {d : DL} {S : DiskS} {F G : Nat → Prop} (h : TwoAt w d S F) (k : Keeps G w w') (hF : ∀ i, F i → ¬ G i) (hv : ∀ i, d.fv.ownBlock = some i → ¬ G i) : TwoAt w' d S F := by
  rcases h with ⟨h, ho, hf⟩ | ⟨h, hf⟩
  · refine .inl ⟨?_, ho, hf⟩
    have hne : ∀ i, d.cutFoot S.waits i → ¬ G i := fun i hi => hF i (hf i hi)
    obtain ⟨h1, ⟨a, e1, e2, e3⟩, ⟨ad, c, e4, e5, e6⟩, h4⟩ := h
    refine ⟨h1.keep k (hne _ (.inl rfl)) (fun i hi => hne i (.inr hi)), ⟨a, e1, e2, fun q hq => ⟨fun j u hu => ?_, Nat.lt_of_lt_of_le (e3 q hq).2 k.size⟩⟩, ⟨ad, c, e4, fun j s hj => ?_, e6⟩, h4⟩
    · rw [ho] at hu; simp at hu
    · exact k.cell (e5 j s hj) (by rw [add_block]; exact hv _ (by rw [e4]; rfl))
  · exact .inr ⟨h.keep k (fun i hi => hF i (hf i hi)) hv, hf⟩
theorem TwoAt.any {w : World} {d : DL} {S : DiskS} {F : Nat → Prop} (h : TwoAt w d S F) : AnyAt w d S F := by
  rcases h with ⟨h, _, hf⟩ | ⟨h, hf⟩
  · exact .inl ⟨h, hf⟩
  · exact .inr ⟨h, hf⟩
theorem TwoAt.below {w w' : World} {d : DL} {S : DiskS} {F : Nat → Prop} (h : TwoAt w d S F) (k : Below w.heap.size w w') : TwoAt w' d S F := h.keepF (G := fun _ => False) (Keeps.of_below k) (fun _ _ h => h) (fun _ _ h => h)
set_option maxRecDepth 100000 in
set_option maxHeartbeats 2000000 in
theorem open_zero_two (d : DL) (S : DiskS) (size : Nat) (w : World) (h : DiskIn w d S) (hB : S.ops.length ≤ 4096) (h1 : 1 ≤ size) (h2 : size + 2 ≤ S.safe.length) (hz : (seenS S.safe S.waits 0).data.toList = zN 512) :
    Calls Tryz.prog 36 #[.pointer (some ⟨d.p, 0, none⟩), .int .i64 size] w fun e w' => Below w.heap.size w w' ∧ ∃ p d', e = .returned (.tuple #[.pointer (some ⟨p, 0, none⟩), .int .i64 0]) ∧ w.heap.size ≤ p ∧
      LogIn w' p d' S size 0 (fun i => w.heap.size ≤ i ∧ i < p) ∧ CutIn w' d' S ∧ (∀ i, d'.cutFoot S.waits i → w.heap.size ≤ i ∧ i < p) ∧ d'.fv = d.fv := by
  have hm := h.plates.most
  have HSe := hid (sectors_disk d S w h)
  have HFk := hid (fork_disk_fv d S w h hB)
  have HZ := hid hz
  have hs1 : (1 : Int) ≤ (size : Int) := by omega
  have hs2 : (size : Int) ≤ (S.safe.length : Int) - 2 := by omega
  clear h hz
  go_enter Tryz.func36, Tryz.ntmps36
  go_wp2_with fail
  refine HSe.out.mono ?_
  clear HSe
  rintro e w1 ⟨rfl, hw1⟩
  obtain rfl := hw1.symm
  go_wp2_with fail
  refine HFk.out.mono ?_
  clear HFk
  rintro e w2 ⟨hb2, d2, rfl, hC, hf, hfv2⟩
  have HFv := hid hfv2
  have HC := hid hC
  have HF := hid hf
  have HB2 := hid hb2
  have HFl : Hid (∀ i, d2.cutFoot S.waits i → i < w2.heap.size) := fun i hi => hi.elim (fun e => by rw [e]; exact lt_of_heap hC.rd.heap) (fun e => hC.rd.plates.foot_lt e)
  have HNu := hid (fun W hW => numbers_zero d2 S size W (hC.rd.below (w' := W) hW) HZ.out)
  unfold layV at HNu
  clear hC hf hb2 hfv2
  have HA := hid ((Below.refl w2.heap.size w2).alloc (Nat.le_refl _) (.cells #[.pointer (some ⟨d2.p, 0, none⟩), .int .i64 size] 92))
  have Hb := hid (block_new w2 (.cells #[.pointer (some ⟨d2.p, 0, none⟩), .int .i64 size] 92))
  go_wp2_with fail
  generalize w2.alloc (.cells #[.pointer (some ⟨d2.p, 0, none⟩), .int .i64 size] 92) = wA at *
  refine (HNu.out _ HA.out).mono ?_
  clear HNu
  rintro e w3 ⟨rfl, hb3⟩
  have hb := below_block hb3 Hb.out (lt_of_heap Hb.out)
  have c0 : w3.cell? ⟨w2.heap.size, 0, none⟩ = some (.pointer (some ⟨d2.p, 0, none⟩)) := cell_of_block hb 0
  have c1 : w3.cell? ⟨w2.heap.size, 1, none⟩ = some (.int .i64 size) := cell_of_block hb 1
  have hs3 := hb3.size
  have hsA := HA.out.size
  have hs22 := HB2.out.size
  have HC3 := hid (HC.out.below (HA.out.trans (hb3.mono HA.out.size)))
  have HB3 := hid (HB2.out.trans ((HA.out.trans (hb3.mono HA.out.size)).mono HB2.out.size))
  clear hb3 hb Hb HC HA
  go_wp2
  go_returns
  have hal := (Below.refl w3.heap.size w3).alloc (Nat.le_refl _) (.cells #[.pointer (some ⟨d2.p, 0, none⟩), .int .i64 size, .int .i64 0] 94)
  have hbd : ∀ i, d2.cutFoot S.waits i → w.heap.size ≤ i ∧ i < w3.heap.size := fun i hi => ⟨HF.out i hi, by have := HFl.out i hi; omega⟩
  exact ⟨HB3.out.trans (hal.mono HB3.out.size), w3.heap.size, d2, rfl, HB3.out.size, ⟨block_new _ _, .inl ⟨HC3.out.below hal, hbd⟩, fun h => by omega⟩, HC3.out.below hal, hbd, HFv.out⟩
end Go.Proofs.YtjgclmlclkfgpaaGreat
