/- TopSums in plain words: what a crash leaves of a sector that was written, flushed and written again. -/
import Derived.Test.YtllkkfeechojoaaDoorMk
namespace Go.Proofs.YtllkkfeechojoaaDoor
open Go.RowKit
def topS0 : DiskS := freshS (List.replicate 6 blankS)
theorem topS0_safe : topS0.safe.length = 6 := by simp [topS0, freshS]
theorem topS0_waits (n : Int) : topS0.waits n = [] := rfl
theorem topS0_ops : topS0.ops.length = 0 := rfl
theorem errW_ok {S : DiskS} {n : Int} {l : List UInt8} (h0 : 0 ≤ n) (h1 : n < S.safe.length) (hl : l.length = 512) : errW S n l = 0 := by
  rw [errW, if_neg (not_not_intro ⟨h0, h1⟩), if_neg (not_not_intro hl)]
theorem put_ok {S : DiskS} {n : Int} {l : List UInt8} (h0 : 0 ≤ n) (h1 : n < S.safe.length) (hl : l.length = 512) : S.put n l = S.wrote n ⟨l.toArray⟩ := by
  rw [DiskS.put, if_pos (errW_ok h0 h1 hl)]
theorem waitKeys_one (k : Int) (h0 : 0 ≤ k) (h1 : k < 6) (x : List ByteArray) (hx : x ≠ []) : waitKeys (upd (fun _ => []) k x) 6 = [k] := by
  have hc : k = 0 ∨ k = 1 ∨ k = 2 ∨ k = 3 ∨ k = 4 ∨ k = 5 := by omega
  have he : x.isEmpty = false := by cases x <;> simp_all
  have hr : List.range 6 = [0, 1, 2, 3, 4, 5] := by decide
  rcases hc with rfl | rfl | rfl | rfl | rfl | rfl <;> simp [waitKeys, upd, hr, he]
/-- Behind a write and a flush. -/
def topS2 (k : Int) (X : List UInt8) : DiskS := (topS0.put k X).flushed
def topS3 (k : Int) (X Y : List UInt8) : DiskS := (topS2 k X).put k Y
section
variable {k : Int} {X Y : List UInt8} (h0 : 0 ≤ k) (h1 : k < 6) (hX : X.length = 512) (hY : Y.length = 512)
theorem topS2_len : (topS2 k X).safe.length = 6 := by
  show (imgS (topS0.put k X)).length = 6
  rw [length_imgS, put_safe]; exact topS0_safe
theorem topS2_ops : (topS2 k X).ops.length ≤ 2 := by
  have h := put_ops topS0 k X
  rw [topS0_ops] at h
  show (_ ++ [OpS.flush]).length ≤ 2
  rw [List.length_append, List.length_singleton]; omega
theorem topS3_len : (topS3 k X Y).safe.length = 6 := by rw [topS3, put_safe]; exact topS2_len
theorem topS3_ops : (topS3 k X Y).ops.length ≤ 3 := by
  have h := put_ops (topS2 k X) k Y
  have := @topS2_ops k X
  unfold topS3; omega
include h0 h1 hX in
theorem topS2_at : (topS2 k X).safe.getD k.toNat ⟨#[]⟩ = ⟨X.toArray⟩ := by
  have hl : k.toNat < (imgS (topS0.put k X)).length := by rw [length_imgS, put_safe, topS0_safe]; omega
  have hk : ((k.toNat : Nat) : Int) = k := by omega
  show (imgS (topS0.put k X)).getD k.toNat ⟨#[]⟩ = _
  rw [List.getD_eq_getElem?_getD, List.getElem?_eq_getElem hl, Option.getD_some, imgS_at, hk, put_ok h0 (by rw [topS0_safe]; exact h1) hX]
  simp [seenS, DiskS.wrote, upd_same, topS0_waits]
include h0 h1 hY in
theorem topS3_waits : (topS3 k X Y).waits = upd (fun _ => []) k [⟨Y.toArray⟩] := by
  rw [topS3, put_ok h0 (by rw [topS2_len]; exact h1) hY]; rfl
theorem topS3_safe : (topS3 k X Y).safe = (topS2 k X).safe := by rw [topS3, put_safe]
include h0 h1 hY in
theorem topS3_keys : waitKeys (topS3 k X Y).waits (topS3 k X Y).safe.length = [k] := by
  rw [topS3_waits h0 h1 hY, topS3_len, waitKeys_one k h0 h1 _ (by simp)]
theorem topS3_good0 : goodKeep (topS3 k X Y).waits (topS3 k X Y).safe.length [] := by
  rw [goodKeep_iff]; exact ⟨Nat.zero_le _, fun j hj => by simp at hj⟩
include h0 h1 hY in
theorem topS3_good1 : goodKeep (topS3 k X Y).waits (topS3 k X Y).safe.length [1] := by
  rw [goodKeep_iff, topS3_keys h0 h1 hY]
  refine ⟨by simp, fun j hj hj' => ?_⟩
  obtain rfl : j = 0 := by simp at hj; omega
  rw [topS3_waits h0 h1 hY]
  simp [upd_same]
/-- What a crash leaves that keeps nothing. -/
def topC0 (k : Int) (X Y : List UInt8) : DiskS := freshS (crashL (topS3 k X Y).waits (topS3 k X Y).safe ((waitKeys (topS3 k X Y).waits (topS3 k X Y).safe.length).zip []))
def topC1 (k : Int) (X Y : List UInt8) : DiskS := freshS (crashL (topS3 k X Y).waits (topS3 k X Y).safe ((waitKeys (topS3 k X Y).waits (topS3 k X Y).safe.length).zip [1]))
theorem topC0_len : (topC0 k X Y).safe.length = 6 := by
  show (crashL _ _ _).length = 6
  rw [length_crashL]; exact topS3_len
theorem topC1_len : (topC1 k X Y).safe.length = 6 := by
  show (crashL _ _ _).length = 6
  rw [length_crashL]; exact topS3_len
theorem seen_fresh (L : List ByteArray) (n : Int) : seenS (freshS L).safe (freshS L).waits n = L.getD n.toNat ⟨#[]⟩ := by
  unfold seenS freshS; rw [if_pos rfl]
include h0 h1 hX in
theorem topC0_seen : seenS (topC0 k X Y).safe (topC0 k X Y).waits k = ⟨X.toArray⟩ := by
  rw [topC0, seen_fresh, List.zip_nil_right]
  show ((topS3 k X Y).safe).getD k.toNat ⟨#[]⟩ = _
  rw [topS3_safe]; exact topS2_at h0 h1 hX
include h0 h1 hY in
theorem topC1_seen : seenS (topC1 k X Y).safe (topC1 k X Y).waits k = ⟨Y.toArray⟩ := by
  have hlt : k.toNat < (topS3 k X Y).safe.length := by rw [topS3_len]; omega
  rw [topC1, seen_fresh, topS3_keys h0 h1 hY]
  show (if (0 : Int) < 1 then (topS3 k X Y).safe.set k.toNat (((topS3 k X Y).waits k).getD ((1 : Int).toNat - 1) ⟨#[]⟩) else (topS3 k X Y).safe).getD k.toNat ⟨#[]⟩ = _
  rw [if_pos (by decide), topS3_waits h0 h1 hY, upd_same, List.getD_eq_getElem?_getD, List.getElem?_set_self hlt]
  rfl
end
end Go.Proofs.YtllkkfeechojoaaDoor
