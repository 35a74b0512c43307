/- WalPlays: what a Commit does to the log and to the reference is the same. Plain facts. -/
import Derived.Test.YtjgclmlclkfgpaaGreatRCommitP
import Derived.Test.YtjgclmlclkfgpaaGreatKeepF
namespace Go.Proofs.YtjgclmlclkfgpaaGreat
open Go.RowKit
/-- The reference of a disk. -/
def refOf (S : DiskS) : RefS := ⟨bytesOf S.first, S.ops.map ropOf⟩
theorem Made.alike {S : DiskS} (h : Made S) : Alike S (refOf S) := by
  have := doOps_alike S.first h.most h.size S.ops h.ok
  rw [← h.made] at this
  exact this
theorem Made.pagesR {S : DiskS} (h : Made S) (size : Nat) : pagesR (refOf S) size = pagesS S size := by
  show (bytesOf S.first).length - 1 - size = S.safe.length - 1 - size
  rw [length_bytesOf, h.len]
/-- Pages with the same numbers, of the same lengths. -/
structure LikeP (ps qs : List PageS) : Prop where
  n : ps.map PageS.n = qs.map PageS.n
  len : ps.map PageS.len = qs.map PageS.len
theorem LikeP.length {ps qs : List PageS} (h : LikeP ps qs) : ps.length = qs.length := by simpa using congrArg List.length h.n
theorem LikeP.at {ps qs : List PageS} (h : LikeP ps qs) (k : Nat) : (ps[k]?).map PageS.n = (qs[k]?).map PageS.n ∧ (ps[k]?).map PageS.len = (qs[k]?).map PageS.len := by
  rw [← List.getElem?_map, ← List.getElem?_map, ← List.getElem?_map, ← List.getElem?_map, h.n, h.len]; exact ⟨rfl, rfl⟩
theorem LikeP.val {ps qs : List PageS} (h : LikeP ps qs) : ∀ k n, (grpVal ps k n).isSome = (grpVal qs k n).isSome
  | 0, _ => rfl
  | k + 1, n => by
    have ih := LikeP.val h k n
    have hk := (h.at k).1
    rw [grpVal, grpVal]
    cases e : ps[k]? with
    | none =>
      rw [e] at hk
      cases e2 : qs[k]? with
      | none => exact ih
      | some q => rw [e2] at hk; cases hk
    | some p =>
      rw [e] at hk
      cases e2 : qs[k]? with
      | none => rw [e2] at hk; cases hk
      | some q =>
        rw [e2] at hk
        have e3 : p.n = q.n := by simpa using hk
        simp only [updV, e3]
        split
        · rfl
        · exact ih
theorem LikeP.err {ps qs : List PageS} (h : LikeP ps qs) : ∀ k, grpErr ps k = grpErr qs k
  | 0 => rfl
  | k + 1 => by
    have ih := LikeP.err h k
    obtain ⟨hk, hl⟩ := h.at k
    rw [grpErr, grpErr]
    cases e : ps[k]? with
    | none =>
      rw [e] at hk
      cases e2 : qs[k]? with
      | none => exact ih
      | some q => rw [e2] at hk; cases hk
    | some p =>
      rw [e] at hk hl
      cases e2 : qs[k]? with
      | none => rw [e2] at hk; cases hk
      | some q =>
        rw [e2] at hk hl
        have e3 : p.n = q.n := by simpa using hk
        have e4 : p.len = q.len := by simpa using hl
        simp only [e3, e4, h.val k, ih]
theorem LikeP.grpL {ps qs : List PageS} (h : LikeP ps qs) (bl : Nat → List UInt8) : ∀ k, grpL ps bl k = grpL qs bl k
  | 0 => rfl
  | k + 1 => by
    funext n
    rw [Go.Proofs.YtjgclmlclkfgpaaGreat.grpL, Go.Proofs.YtjgclmlclkfgpaaGreat.grpL, (h.at k).1, LikeP.grpL h bl k]
theorem LikeP.keys {ps qs : List PageS} (h : LikeP ps qs) (k N : Nat) : grpKeys (grpVal ps k) N = grpKeys (grpVal qs k) N := by
  unfold grpKeys
  exact List.filter_congr (fun n _ => h.val k n)
theorem inPages_map (N : Nat) (ps : List PageS) : inPages N ps = (ps.map PageS.n).all (fun n => decide (0 ≤ n ∧ n < (N : Int))) := by
  rw [inPages, List.all_map]; rfl
theorem LikeP.com {ps qs : List PageS} (h : LikeP ps qs) (N size : Nat) : comErr N size ps = comErr N size qs := by
  rw [comErr, comErr, inPages_map, inPages_map, h.n, h.length, h.err]
theorem likeP_deed (s : Bool) (ns : List Int) (bs cs : Nat → Nat) (m : Nat) : LikeP (deedPs s ns bs m) (deedPs s ns cs m) := by
  constructor
  · simp [deedPs, Function.comp_def]
  · simp [deedPs, Function.comp_def]
/-- What a Commit does to the reference is what it does to the log's disk. -/
theorem rcom_of {S : DiskS} (h : Made S) (size : Nat) {ps qs : List PageS} (hl : LikeP ps qs) (bl : Nat → List UInt8) : rcomR (refOf S) size qs bl = refOf (comS S size ps bl) := by
  rw [rcomR, comS, h.pagesR, hl.com, hl.length]
  split
  · rw [writtenS_doOps]
    obtain ⟨h1, _, h3⟩ := doOps_facts S (comOps size (Go.Proofs.YtjgclmlclkfgpaaGreat.grpL ps bl qs.length) (grpKeys (grpVal ps qs.length) (pagesS S size)))
    show (⟨bytesOf S.first, S.ops.map ropOf ++ _⟩ : RefS) = ⟨bytesOf (doOps S _).first, (doOps S _).ops.map ropOf⟩
    rw [h1, h3, hl.grpL, hl.keys, List.map_append]
  · rfl
theorem rfresh_ref (n : Nat) : rfresh n = refOf (freshN n) := by
  show (⟨List.replicate n zeros, []⟩ : RefS) = ⟨(List.replicate n blankS).map (fun s => s.data.toList), []⟩
  rw [List.map_replicate, show blankS.data.toList = zN 512 from blank_zeros]
  rfl
theorem img_atP {S : DiskS} (h : Made S) (k : Nat) (hk : k < S.safe.length) : (atL (refOf S) (refOf S).l.length)[k]? = some (secL S k) := by
  rw [← h.alike.img, bytesOf, List.getElem?_map, List.getElem?_eq_getElem (by rw [length_imgS]; exact hk), imgS_at]
  rfl
end Go.Proofs.YtjgclmlclkfgpaaGreat
