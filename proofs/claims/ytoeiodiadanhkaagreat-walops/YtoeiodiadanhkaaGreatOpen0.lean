/- wal.Open of a disk whose head is nothing but noughts. -/
import Derived.Test.YtoeiodiadanhkaaGreatAny
import Derived.Test.YtoeiodiadanhkaaGreatHead
namespace Go.Proofs.YtoeiodiadanhkaaGreat
open Go.RowKit
set_option maxRecDepth 100000 in
set_option maxHeartbeats 1000000 in
theorem equal_any (l m : List UInt8) (a b : Addr) (c c' : Nat) (w : World) (ha : bytesAt w a l) (hb : bytesAt w b m) :
    Calls Tryz.prog 88 #[.slice (some a) l.length c, .slice (some b) m.length c'] w fun e w' => e = .returned (.bool (decide (l = m))) ∧ w' = w := by
  have hcv := run_convert_bytes_back (P := Tryz.prog) w 37 9 5 a c l Tryz.underlying37 Tryz.underlying5 Tryz.underlying9 ha
  have hcw := run_convert_bytes_back (P := Tryz.prog) w 37 9 5 b c' m Tryz.underlying37 Tryz.underlying5 Tryz.underlying9 hb
  have he : ((⟨l.toArray⟩ : ByteArray).toList == (⟨m.toArray⟩ : ByteArray).toList) = decide (l = m) := by
    rw [ByteArray.toList_mk, ByteArray.toList_mk]
    by_cases h : l = m
    · subst h; simp
    · rw [decide_eq_false h]; simpa using h
  have HE := hid he
  clear ha hb he
  generalize hs : (⟨l.toArray⟩ : ByteArray) = s at *
  generalize ht : (⟨m.toArray⟩ : ByteArray) = t at *
  clear hs ht
  go_enter Tryz.func88, Tryz.ntmps88
  go_wp2
  go_ret
  refine ⟨?_, rfl⟩
  rw [← HE.out]; rfl
set_option maxRecDepth 100000 in
set_option maxHeartbeats 1000000 in
theorem numbers_zero (d : DL) (S : DiskS) (size : Nat) (w : World) (h : DiskRd w d S) (hz : (seenS S.safe S.waits 0).data.toList = zN 512) :
    Calls Tryz.prog 61 #[layV d.p size] w fun e w' => e = .returned (.tuple #[.slice none 0 0, .bool true]) ∧ Below w.heap.size w w' := by
  have hsz : (seenS S.safe S.waits 0).size = 512 := by
    have : (seenS S.safe S.waits 0).data.toList.length = 512 := by rw [hz]; exact length_zN 512
    simpa using this
  have HR := hid (fun W hW => read_ok_rd d S 0 W (h.below (w' := W) hW) (by omega) (by have := h.plates.pos; omega))
  rw [hsz, hz] at HR
  clear h hsz hz
  unfold layV
  go_enter Tryz.func61, Tryz.ntmps61
  go_wp2_with fail
  refine (HR.out _ ((Below.refl w.heap.size w).alloc (Nat.le_refl _) (.cells #[.pointer (some ⟨d.p, 0, none⟩), .int .i64 size] 77))).mono ?_
  rintro e w1 ⟨b, c, rfl, hb, hat, hb1⟩
  have HAt := hid hat
  have HB1 := hid (((Below.refl w.heap.size w).alloc (Nat.le_refl _) (.cells #[.pointer (some ⟨d.p, 0, none⟩), .int .i64 size] 77)).trans (hb1.mono (by simp)))
  clear hat hb1 HR
  go_wp2_with (refine wpList_make_u8 rfl (.const (.int .i64 512)) (.const (.int .i64 512)) rfl 512 512 rfl rfl rfl (by omega) ?_; intro w2 hb2 hr2 hz2; have HB2 := hid (HB1.out.trans (hb2.mono HB1.out.size)); have HR2 : Hid (ownB w2 w1.heap.size (zN 512)) := (by unfold Hid ownB; rw [hr2, rep_U8]); have HK2 := hid hb2; clear hb2 hr2 hz2)
  have he := equal_any (zN 512) (zN 512) ⟨b, 0, none⟩ ⟨w1.heap.size, 0, none⟩ c 512 w2 (fun j hj => (HK2.out.cell (World.block_lt_of_cell? w1 _ (HAt.out j hj))).trans (HAt.out j hj)) HR2.out.at
  rw [length_zN, decide_eq_true rfl] at he
  have HE := hid he
  clear he
  refine HE.out.mono ?_
  clear HE
  rintro e w3 ⟨rfl, h3⟩
  obtain rfl := h3.symm
  go_wp2
  go_returns
  exact ⟨rfl, HB2.out⟩
/-- A log in memory: where it lies, its disk. -/
structure LogIn (w : World) (p : Nat) (d : DL) (S : DiskS) (size rec : Nat) (F : Nat → Prop) : Prop where
  heap : w.heap[p]? = some (.cells #[.pointer (some ⟨d.p, 0, none⟩), .int .i64 size, .int .i64 rec] 79 (0, 0))
  disk : AnyAt w d S F
  off : ¬ F p
set_option maxRecDepth 100000 in
set_option maxHeartbeats 2000000 in
theorem open_zero (d : DL) (S : DiskS) (size : Nat) (w : World) (h : DiskIn w d S) (hB : S.ops.length ≤ 4096) (h1 : 1 ≤ size) (h2 : size + 2 ≤ S.safe.length) (hz : (seenS S.safe S.waits 0).data.toList = zN 512) :
    Calls Tryz.prog 29 #[.pointer (some ⟨d.p, 0, none⟩), .int .i64 size] w fun e w' => Below w.heap.size w w' ∧ ∃ p d', e = .returned (.tuple #[.pointer (some ⟨p, 0, none⟩), .int .i64 0]) ∧ w.heap.size ≤ p ∧
      LogIn w' p d' S size 0 (fun i => w.heap.size ≤ i ∧ i < p) := by
  have hm := h.plates.most
  have HSe := hid (sectors_disk d S w h)
  have HFk := hid (fork_disk d S w h hB)
  have HZ := hid hz
  have hs1 : (1 : Int) ≤ (size : Int) := by omega
  have hs2 : (size : Int) ≤ (S.safe.length : Int) - 2 := by omega
  clear h hz
  go_enter Tryz.func29, Tryz.ntmps29
  go_wp2_with fail
  refine HSe.out.mono ?_
  clear HSe
  rintro e w1 ⟨rfl, hw1⟩
  obtain rfl := hw1.symm
  go_wp2_with fail
  refine HFk.out.mono ?_
  clear HFk
  rintro e w2 ⟨hb2, d2, rfl, hC, hf⟩
  have HC := hid hC
  have HF := hid hf
  have HB2 := hid hb2
  have HFl : Hid (∀ i, d2.cutFoot S.waits i → i < w2.heap.size) := fun i hi => hi.elim (fun e => by rw [e]; exact lt_of_heap hC.rd.heap) (fun e => hC.rd.plates.foot_lt e)
  have HNu := hid (fun W hW => numbers_zero d2 S size W (hC.rd.below (w' := W) hW) HZ.out)
  unfold layV at HNu
  clear hC hf hb2
  have HA := hid ((Below.refl w2.heap.size w2).alloc (Nat.le_refl _) (.cells #[.pointer (some ⟨d2.p, 0, none⟩), .int .i64 size] 77))
  have Hb := hid (block_new w2 (.cells #[.pointer (some ⟨d2.p, 0, none⟩), .int .i64 size] 77))
  go_wp2_with fail
  generalize w2.alloc (.cells #[.pointer (some ⟨d2.p, 0, none⟩), .int .i64 size] 77) = wA at *
  refine (HNu.out _ HA.out).mono ?_
  clear HNu
  rintro e w3 ⟨rfl, hb3⟩
  have hb := below_block hb3 Hb.out (lt_of_heap Hb.out)
  have c0 : w3.cell? ⟨w2.heap.size, 0, none⟩ = some (.pointer (some ⟨d2.p, 0, none⟩)) := cell_of_block hb 0
  have c1 : w3.cell? ⟨w2.heap.size, 1, none⟩ = some (.int .i64 size) := cell_of_block hb 1
  have hs3 := hb3.size
  have hsA := HA.out.size
  have hs22 := HB2.out.size
  have HC3 := hid (HC.out.below (HA.out.trans (hb3.mono HA.out.size)))
  have HB3 := hid (HB2.out.trans ((HA.out.trans (hb3.mono HA.out.size)).mono HB2.out.size))
  clear hb3 hb Hb HC HA
  go_wp2
  go_returns
  have hal := (Below.refl w3.heap.size w3).alloc (Nat.le_refl _) (.cells #[.pointer (some ⟨d2.p, 0, none⟩), .int .i64 size, .int .i64 0] 79)
  refine ⟨HB3.out.trans (hal.mono HB3.out.size), w3.heap.size, d2, rfl, HB3.out.size, block_new _ _, .inl ⟨HC3.out.below hal, fun i hi => ⟨HF.out i hi, ?_⟩⟩, fun h => by omega⟩
  have := HFl.out i hi
  omega
end Go.Proofs.YtoeiodiadanhkaaGreat
