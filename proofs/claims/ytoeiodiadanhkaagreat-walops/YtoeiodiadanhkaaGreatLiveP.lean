/- What law03's live asks, in plain words. -/
import Derived.Test.YtoeiodiadanhkaaGreatDeedP
import Derived.Test.YtoeiodiadanhkaaGreatPlaysPlain
namespace Go.Proofs.YtoeiodiadanhkaaGreat
open Go.RowKit
def wS0 : DiskS := freshS (List.replicate 8 blankS)
theorem wS0_len : wS0.safe.length = 8 := by simp [wS0, freshS]
theorem wS0_seen : (seenS wS0.safe wS0.waits 0).data.toList = zN 512 := by
  have : seenS wS0.safe wS0.waits 0 = blankS := by simp [seenS, wS0, freshS]
  rw [this]; exact blank_zeros
theorem wS0_pages : pagesS wS0 3 = 4 := by unfold pagesS; rw [wS0_len]
def livePs (b0 b1 : Nat) : List PageS := [⟨2, some ⟨b0, 0, none⟩, 512, 512⟩, ⟨0, some ⟨b1, 0, none⟩, 512, 512⟩]
def liveL (n : Int) : List UInt8 := if n = 2 then rowX 5 0 else rowX 5 1
theorem liveVal (b0 b1 : Nat) (n : Int) : grpVal (livePs b0 b1) 2 n = if n = 0 then some (.slice (some ⟨b1, 0, none⟩) 512 512) else if n = 2 then some (.slice (some ⟨b0, 0, none⟩) 512 512) else none := by
  simp [grpVal, livePs, updV, PageS.val]
theorem liveErr (b0 b1 : Nat) : grpErr (livePs b0 b1) 2 = 0 := by
  simp [grpErr, livePs, grpVal, updV]
theorem liveKeys (b0 b1 : Nat) : grpKeys (grpVal (livePs b0 b1) 2) 4 = [0, 2] := by
  have hr : List.range 4 = [0, 1, 2, 3] := by decide
  simp [grpKeys, hr, liveVal]
theorem seen_flushed (S : DiskS) (n : Nat) (h : n < S.safe.length) : seenS S.flushed.safe S.flushed.waits (n : Int) = seenS S.safe S.waits (n : Int) := by
  have hl : n < (imgS S).length := by rw [length_imgS]; exact h
  show (if ([] : List ByteArray) = [] then (imgS S).getD ((n : Int)).toNat ⟨#[]⟩ else _) = _
  rw [if_pos rfl, show ((n : Int)).toNat = n by omega, List.getD_eq_getElem?_getD, List.getElem?_eq_getElem hl, Option.getD_some, imgS_at]
theorem seen_other (S : DiskS) (n k : Int) (s : ByteArray) (h : n ≠ k) : seenS (S.wrote k s).safe (S.wrote k s).waits n = seenS S.safe S.waits n := by
  simp [seenS, DiskS.wrote, upd_other _ _ h]
theorem seen_same (S : DiskS) (k : Int) (s : ByteArray) : seenS (S.wrote k s).safe (S.wrote k s).waits k = s := by
  simp [seenS, DiskS.wrote, upd_same]
theorem live_seen : seenS (writtenS wS0 3 liveL [0, 2]).safe (writtenS wS0 3 liveL [0, 2]).waits (1 + ((3 : Nat) : Int) + ((0 : Nat) : Int)) = ⟨(rowX 5 1).toArray⟩ := by
  have e4 : (1 + ((3 : Nat) : Int) + ((0 : Nat) : Int)) = ((4 : Nat) : Int) := by decide
  rw [e4, writtenS, homeS]
  generalize hX : ((logTo wS0 liveL [0, 2] [(0 : Int), 2].length).flushed.wrote 0 ⟨(headS ([(0 : Int), 2].map Int.toNat)).toArray⟩).flushed = X
  have hXl : X.safe.length = 8 := by
    rw [← hX]
    show (imgS _).length = 8
    rw [length_imgS]
    show (imgS _).length = 8
    rw [length_imgS, (logTo_facts _ _ _ _).1, wS0_len]
  have hHl : (homeTo X 3 liveL [0, 2]).safe.length = 8 := by rw [(homeTo_facts 3 liveL [0, 2] X).1, hXl]
  rw [seen_flushed _ 4 (by show 4 < (imgS _).length; rw [length_imgS, hHl]; decide), seen_other _ _ _ _ (by decide), seen_flushed _ 4 (by rw [hHl]; decide)]
  have eh : homeTo X 3 liveL [0, 2] = (X.wrote (1 + ((3 : Nat) : Int) + 0) ⟨(liveL 0).toArray⟩).wrote (1 + ((3 : Nat) : Int) + 2) ⟨(liveL 2).toArray⟩ := rfl
  rw [eh]
  rw [seen_other _ _ _ _ (by decide), show (((4 : Nat) : Int)) = 1 + ((3 : Nat) : Int) + 0 by decide, seen_same]
  rfl
theorem live_ops : (writtenS wS0 3 liveL [0, 2]).ops.length = 10 := by
  rw [writtenS, homeS]
  generalize headS ([(0 : Int), 2].map Int.toNat) = H1
  generalize headS [] = H2
  simp only [DiskS.flushed, DiskS.wrote, List.length_append, List.length_singleton, (homeTo_facts 3 liveL [0, 2] _).2, (logTo_facts wS0 liveL [0, 2] _).2]
  rfl
theorem live_len : (writtenS wS0 3 liveL [0, 2]).safe.length = 8 := by
  rw [writtenS, homeS]
  show (imgS _).length = 8
  rw [length_imgS]
  show (imgS _).length = 8
  rw [length_imgS, (homeTo_facts 3 liveL [0, 2] _).1]
  show (imgS _).length = 8
  rw [length_imgS]
  show (imgS _).length = 8
  rw [length_imgS, (logTo_facts _ _ _ _).1, wS0_len]
end Go.Proofs.YtoeiodiadanhkaaGreat
