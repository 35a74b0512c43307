/- disk.Same: are two disks read alike? -/
import Derived.Test.YtpkjpkjcdpgaaaaInts
import Derived.BigQuiet
namespace Go.Proofs.Ytpkjpkjcdpgaaaa
open Go.RowKit
theorem toList_ne {s t : ByteArray} (h : ¬ s = t) : (s.toList == t.toList) = false := by
  rw [beq_eq_false_iff_ne]
  intro e
  rw [ByteArray.toList_eq, ByteArray.toList_eq] at e
  exact h (WideShapes.bytes_inj e)
/-- All sectors as they are read. -/
def imgS (S : DiskS) : List ByteArray := (List.range S.safe.length).map (fun n : Nat => seenS S.safe S.waits (n : Int))
theorem length_imgS (S : DiskS) : (imgS S).length = S.safe.length := by simp [imgS]
theorem imgS_at (S : DiskS) (k : Nat) (h : k < (imgS S).length) : (imgS S)[k] = seenS S.safe S.waits (k : Int) := by simp [imgS]
set_option maxRecDepth 100000 in
set_option maxHeartbeats 1000000 in
theorem same_disks_rd (d d' : DL) (S S' : DiskS) (w : World) (h : DiskRd w d S) (h' : DiskRd w d' S') :
    Calls Try.prog 31 #[.pointer (some ⟨d.p, 0, none⟩), .pointer (some ⟨d'.p, 0, none⟩)] w fun e w' => e = .returned (.bool (decide (imgS S = imgS S'))) ∧ Below w.heap.size w w' := by
  have c2 : w.cell? ⟨d.p, 2, none⟩ = some (.slice (some ⟨d.L.g, 0, none⟩) S.safe.length d.L.cap) := by rw [cell_of_block h.heap]; rfl
  have c2' : w.cell? ⟨d'.p, 2, none⟩ = some (.slice (some ⟨d'.L.g, 0, none⟩) S'.safe.length d'.L.cap) := by rw [cell_of_block h'.heap]; rfl
  have hm := h.plates.most
  have hm' := h'.plates.most
  have H := hid h
  have H' := hid h'
  have HL := hid (length_imgS S)
  have HL' := hid (length_imgS S')
  clear h h'
  by_cases hl : S.safe.length = S'.safe.length
  · have hne : ((S.safe.length : Int) != (S'.safe.length : Int)) = false := by rw [bne_eq_false_iff_eq]; omega
    have HE := hid hl
    clear hl
    go_enter Try.func31, Try.ntmps31
    go_wp2
    go_quiet (fail)
    go_wp2
    go_loopw [34] (fun i wr => ∃ k : Nat, k ≤ S.safe.length ∧ i = .int .i64 k ∧ Hid ((imgS S).take k = (imgS S').take k) ∧ Hid (Below w.heap.size w wr)) (fun i _ => S.safe.length - (intOf i).toNat)
    case atStart => exact ⟨0, by omega, rfl, rfl, by first | exact (Below.refl _ w).drew | exact below_drewN' (Below.refl _ w) _⟩
    case round =>
      obtain ⟨k, hk, rfl, ht, hB⟩ := hrel
      clear hne c2 c2'
      by_cases hlt : k < S.safe.length
      · have hi0 : (0 : Int) ≤ (k : Int) := by omega
        have hi1 : (k : Int) < (S.safe.length : Int) := by omega
        have hs : ∀ nd, Calls Try.prog 37 #[.pointer (some ⟨d.p, 2, none⟩), .int .i64 k] (wr.drewN nd) fun e w' => e = .returned (.string (seenS S.safe S.waits k)) ∧ w' = wr.drewN nd := fun nd => by
          have hD := H.out.below (below_drewN' hB.out nd)
          exact seen_any d.p d.L S.safe S.waits S.ops.length (k : Int) (wr.drewN nd) (by rw [cell_of_block hD.heap]; rfl) (by rw [cell_of_block hD.heap]; rfl) hD.plates hi0 hi1
        have hs' : ∀ nd, Calls Try.prog 37 #[.pointer (some ⟨d'.p, 2, none⟩), .int .i64 k] (wr.drewN nd) fun e w' => e = .returned (.string (seenS S'.safe S'.waits k)) ∧ w' = wr.drewN nd := fun nd => by
          have hD := H'.out.below (below_drewN' hB.out nd)
          exact seen_any d'.p d'.L S'.safe S'.waits S'.ops.length (k : Int) (wr.drewN nd) (by rw [cell_of_block hD.heap]; rfl) (by rw [cell_of_block hD.heap]; rfl) hD.plates hi0 (by have := HE.out; omega)
        have hlt1 : k < (imgS S).length := by rw [HL.out]; exact hlt
        have hlt2 : k < (imgS S').length := by rw [HL'.out, ← HE.out]; exact hlt
        have e1 := imgS_at S k hlt1
        have e2 := imgS_at S' k hlt2
        by_cases hx : seenS S.safe S.waits k = seenS S'.safe S'.waits k
        · have HT := hid (take_next hlt1 hlt2 ht.out (by rw [e1, e2, hx]))
          rw [← hx] at hs'
          generalize seenS S.safe S.waits k = s at *
          have HS := hid hs
          have HS' := hid hs'
          clear hx e1 e2 hs hs' hlt1 hlt2
          go_wp2
          go_quiet (first
            | (go_at_call_of 37 (Value.pointer (some ⟨d.p, 2, none⟩)); exact Calls.quiet_of_same (HS.out _))
            | (go_at_call_of 37 (Value.pointer (some ⟨d'.p, 2, none⟩)); exact Calls.quiet_of_same (HS'.out _)))
          go_wp2
          exact ⟨⟨k + 1, by omega, by go_num, HT, below_drewN' hB.out _⟩, by simp [intOf]; omega⟩
        · have HF : Hid (decide (imgS S = imgS S') = false) := decide_eq_false (fun e => hx (by rw [← e1, ← e2]; simp only [e]))
          generalize seenS S.safe S.waits k = s at *
          generalize seenS S'.safe S'.waits k = s' at *
          have hq : (s.toList == s'.toList) = false := toList_ne hx
          have HS := hid hs
          have HS' := hid hs'
          clear e1 e2 hs hs' hlt1 hlt2
          go_wp2
          go_quiet (first
            | (go_at_call_of 37 (Value.pointer (some ⟨d.p, 2, none⟩)); exact Calls.quiet_of_same (HS.out _))
            | (go_at_call_of 37 (Value.pointer (some ⟨d'.p, 2, none⟩)); exact Calls.quiet_of_same (HS'.out _)))
          go_wp2
          go_ret
          exact ⟨by rw [HF.out]; rfl, below_drewN' hB.out _⟩
      · have hge : ¬ ((k : Int) < (S.safe.length : Int)) := by omega
        have HF : Hid (decide (imgS S = imgS S') = true) := decide_eq_true (by
          have := ht.out
          rwa [List.take_of_length_le (by rw [HL.out]; omega), List.take_of_length_le (by rw [HL'.out, ← HE.out]; omega)] at this)
        go_wp2
        go_ret
        exact ⟨by rw [HF.out]; rfl, hB.out⟩
  · have hne : ((S.safe.length : Int) != (S'.safe.length : Int)) = true := by rw [bne_iff_ne]; omega
    have HF : Hid (decide (imgS S = imgS S') = false) := decide_eq_false (fun e => hl (by rw [← HL.out, ← HL'.out, e]))
    go_enter Try.func31, Try.ntmps31
    go_wp2
    go_quiet (fail)
    go_wp2
    go_ret
    exact ⟨by rw [HF.out]; rfl, by first | exact (Below.refl _ w).drew | exact below_drewN' (Below.refl _ w) _⟩
theorem same_disks (d d' : DL) (S S' : DiskS) (w : World) (h : DiskIn w d S) (h' : DiskIn w d' S') :
    Calls Try.prog 31 #[.pointer (some ⟨d.p, 0, none⟩), .pointer (some ⟨d'.p, 0, none⟩)] w fun e w' => e = .returned (.bool (decide (imgS S = imgS S'))) ∧ Below w.heap.size w w' :=
  same_disks_rd d d' S S' w h.rd h'.rd
end Go.Proofs.Ytpkjpkjcdpgaaaa
