/- The reference's Commit: plain facts. -/
import Derived.Test.YtjgclmlclkfgpaaGreatRLog
import Derived.Test.YtjgclmlclkfgpaaGreatRSort
import Derived.Test.YtjgclmlclkfgpaaGreatWMade
namespace Go.Proofs.YtjgclmlclkfgpaaGreat
open Go.RowKit
/-- The reference behind the first j pages were written to the log. -/
def rlogTo (R : RefS) (l : Int → List UInt8) (ks : List Int) (j : Nat) : RefS := ⟨R.first, R.l ++ (logOps l ks j).map ropOf⟩
theorem logOps_len (l : Int → List UInt8) (ks : List Int) (j : Nat) : (logOps l ks j).length = j := by simp [logOps]
theorem logOps_succ (l : Int → List UInt8) (ks : List Int) (j : Nat) : logOps l ks (j + 1) = logOps l ks j ++ [.write (1 + (j : Int)) ⟨(l (ks.getD j 0)).toArray⟩] := by simp [logOps, List.range_succ]
theorem rlogTo_len (R : RefS) (l : Int → List UInt8) (ks : List Int) (j : Nat) : (rlogTo R l ks j).l.length = R.l.length + j := by simp [rlogTo, logOps_len]
theorem rlogTo_snoc (R : RefS) (l : Int → List UInt8) (ks : List Int) (j : Nat) : (rlogTo R l ks (j + 1)).l = (rlogTo R l ks j).l ++ [⟨false, 1 + (j : Int), l (ks.getD j 0)⟩] := by
  simp [rlogTo, logOps_succ, ropOf]
theorem rlogTo_succ (R : RefS) (l : Int → List UInt8) (ks : List Int) (j : Nat) (h1 : 1 + j < R.first.length) (h5 : (l (ks.getD j 0)).length = 512) : (rlogTo R l ks j).put (1 + (j : Int)) (l (ks.getD j 0)) = rlogTo R l ks (j + 1) := by
  have e : errR (rlogTo R l ks j) (1 + (j : Int)) (l (ks.getD j 0)) = 0 := by
    rw [errR, if_neg (not_not_intro ⟨by omega, by show _ < ((R.first.length : Nat) : Int); omega⟩), if_neg (not_not_intro h5)]
  rw [RefS.put, if_pos e, RefS.did, ← rlogTo_snoc]
  rfl
theorem okR_log {R : RefS} (h : okR R) (l : Int → List UInt8) (ks : List Int) (hl : ks.length < R.first.length) (h5 : ∀ k ∈ ks, (l k).length = 512) (j : Nat) (hj : j ≤ ks.length) : okR (rlogTo R l ks j) := by
  refine ⟨h.1, h.2.1, fun o ho hf => ?_⟩
  rcases List.mem_append.1 ho with ho | ho
  · exact h.2.2 o ho hf
  · obtain ⟨p, hp, rfl⟩ := List.mem_map.1 ho
    obtain ⟨i, hi, rfl⟩ := List.mem_map.1 hp
    have hi' := List.mem_range.1 hi
    have e : ks.getD i 0 = ks[i]'(by omega) := by rw [List.getD_eq_getElem?_getD, List.getElem?_eq_getElem (by omega), Option.getD_some]
    refine ⟨by simp only [ropOf]; omega, ?_, ?_⟩
    · show 1 + (i : Int) < ((R.first.length : Nat) : Int); omega
    · simp only [ropOf]; rw [e]; exact h5 _ (List.getElem_mem _)
theorem rlogTo_at (R : RefS) (l : Int → List UInt8) (ks : List Int) (i : Nat) (hi : 1 + i < R.first.length) : ∀ j, i < j → (atL (rlogTo R l ks j) (R.l.length + j))[1 + i]? = some (l (ks.getD i 0))
  | 0, h => by omega
  | j + 1, h => by
    rw [← Nat.add_assoc, atL_succ]
    have e : (rlogTo R l ks (j + 1)).l[R.l.length + j]? = some ⟨false, 1 + (j : Int), l (ks.getD j 0)⟩ := by
      rw [rlogTo_snoc, ← rlogTo_len R l ks j, List.getElem?_append_right (Nat.le_refl _)]; simp
    have hc := atL_congr (rlogTo R l ks (j + 1)) (rlogTo R l ks j) rfl (R.l.length + j) (fun i hi => by
      rw [rlogTo_snoc, List.getElem?_append_left (by rw [rlogTo_len]; exact hi)])
    rw [e, hc]
    simp only [Bool.false_eq_true, if_false]
    by_cases e2 : i = j
    · subst e2
      rw [show (1 + (i : Int)).toNat = 1 + i by omega, List.getElem?_set_self (by rw [length_atL]; exact hi)]
    · rw [List.getElem?_set_ne (by omega)]
      exact rlogTo_at R l ks i hi j (by omega)
theorem atL_did (R : RefS) (o : ROp) : atL (R.did o) (R.did o).l.length = if o.flush then atL R R.l.length else (atL R R.l.length).set o.n.toNat o.b := by
  have e : (R.did o).l.length = R.l.length + 1 := by simp [RefS.did]
  have hc := atL_congr (R.did o) R rfl R.l.length (fun i hi => by simp [RefS.did, List.getElem?_append_left hi])
  rw [e, atL_succ, show (R.did o).l[R.l.length]? = some o by simp [RefS.did], hc]
/-- The reference behind the pages lie in the log, and the head names them. -/
def rmidR (R : RefS) (l : Int → List UInt8) (ks : List Int) : RefS := ((((rlogTo R l ks ks.length).did ⟨true, 0, []⟩).put 0 (headS (ks.map Int.toNat))).did ⟨true, 0, []⟩)
theorem put_head (R : RefS) (ns : List Nat) (h0 : 0 < R.first.length) (hn : ns.length ≤ 254) : R.put 0 (headS ns) = R.did ⟨false, 0, headS ns⟩ := by
  have e : errR R 0 (headS ns) = 0 := by
    have h5 : (headS ns).length = 512 := length_headTo _ _ (Nat.le_refl _) hn
    rw [errR, if_neg (not_not_intro ⟨by omega, by omega⟩), if_neg (not_not_intro h5)]
  rw [RefS.put, if_pos e]
theorem rmid_eq (R : RefS) (l : Int → List UInt8) (ks : List Int) (h0 : 0 < R.first.length) (hn : ks.length ≤ 254) : rmidR R l ks = (((rlogTo R l ks ks.length).did ⟨true, 0, []⟩).did ⟨false, 0, headS (ks.map Int.toNat)⟩).did ⟨true, 0, []⟩ := by
  rw [rmidR, put_head ((rlogTo R l ks ks.length).did ⟨true, 0, []⟩) _ h0 (by simpa using hn)]
theorem rmid_len (R : RefS) (l : Int → List UInt8) (ks : List Int) (h0 : 0 < R.first.length) (hn : ks.length ≤ 254) : (rmidR R l ks).l.length = R.l.length + ks.length + 3 := by
  rw [rmid_eq R l ks h0 hn]
  simp [RefS.did, rlogTo_len]
theorem rmid_at (R : RefS) (l : Int → List UInt8) (ks : List Int) (hl : ks.length < R.first.length) (hn : ks.length ≤ 254) (i : Nat) (hi : i < ks.length) : (atL (rmidR R l ks) (rmidR R l ks).l.length)[1 + i]? = some (l (ks.getD i 0)) := by
  rw [rmid_eq R l ks (by omega) hn, atL_did, if_pos rfl, atL_did]
  simp only [Bool.false_eq_true, if_false]
  rw [List.getElem?_set_ne (by simp; omega), atL_did, if_pos rfl, rlogTo_len]
  exact rlogTo_at R l ks i (by omega) ks.length hi
theorem okR_did {R : RefS} (h : okR R) (o : ROp) (ho : o.flush = false → 0 ≤ o.n ∧ o.n < R.first.length ∧ o.b.length = 512) : okR (R.did o) := by
  refine ⟨h.1, h.2.1, fun x hx hf => ?_⟩
  rcases List.mem_append.1 hx with hx | hx
  · exact h.2.2 x hx hf
  · rw [List.mem_singleton.1 hx] at hf ⊢; exact ho hf
theorem okR_mid {R : RefS} (h : okR R) (l : Int → List UInt8) (ks : List Int) (hl : ks.length < R.first.length) (hn : ks.length ≤ 254) (h5 : ∀ k ∈ ks, (l k).length = 512) : okR (rmidR R l ks) := by
  rw [rmid_eq R l ks (by omega) hn]
  refine okR_did (okR_did (okR_did (okR_log h l ks hl h5 _ (Nat.le_refl _)) _ (fun e => by cases e)) _ (fun _ => ⟨by simp, ?_, length_headTo _ _ (Nat.le_refl _) (by simpa using hn)⟩)) _ (fun e => by cases e)
  show (0 : Int) < ((R.first.length : Nat) : Int)
  omega
theorem rhome_eq (R : RefS) (size : Nat) (l : Int → List UInt8) (ks : List Int) (hl : ks.length < R.first.length) (hn : ks.length ≤ 254) (hk : ∀ k ∈ ks, 0 ≤ k) : rhomeR (rmidR R l ks) size (ks.map Int.toNat) (fun i => l (ks.getD i 0)) = ⟨R.first, R.l ++ (comOps size l ks).map ropOf⟩ := by
  rw [rhomeR, put_head _ _ (by show 0 < (rmidR R l ks).first.length; rw [rmid_eq R l ks (by omega) hn]; show 0 < R.first.length; omega) (by simp), rmid_eq R l ks (by omega) hn]
  have e : (List.range (ks.map Int.toNat).length).map (fun i => (⟨false, (size : Int) + 1 + ((ks.map Int.toNat).getD i 0 : Nat), l (ks.getD i 0)⟩ : ROp)) = (ks.map (fun n => OpS.write (1 + (size : Int) + n) ⟨(l n).toArray⟩)).map ropOf := by
    refine List.ext_getElem (by simp) (fun i h1 h2 => ?_)
    have hi : i < ks.length := by simpa using h1
    have := hk ks[i] (List.getElem_mem hi)
    simp only [List.getElem_map, List.getElem_range, ropOf]
    rw [List.getD_eq_getElem?_getD, List.getElem?_map, List.getElem?_eq_getElem hi, List.getD_eq_getElem?_getD, List.getElem?_eq_getElem hi]
    simp only [Option.map_some, Option.getD_some]
    congr 1
    omega
  rw [comOps, homeOps]
  simp only [RefS.did, rhomeTo, e, rlogTo, List.map_append, List.append_assoc]
  simp [ropOf]
/-- The reference behind a Commit. -/
def rcomR (R : RefS) (size : Nat) (ps : List PageS) (bl : Nat → List UInt8) : RefS := if comErr (pagesR R size) size ps = 0 ∧ ps.length ≠ 0 then ⟨R.first, R.l ++ (comOps size (grpL ps bl ps.length) (grpKeys (grpVal ps ps.length) (pagesR R size))).map ropOf⟩ else R
/-- A log of the reference stays when other blocks are written. -/
theorem RLogIn.keepG {w w' : World} {q r : Nat} {fv lv : Value} {vs : List Value} {Rd G : Nat → Prop} {R : RefS} {size rec : Nat} (h : RLogIn w q r fv lv vs Rd R size rec) (k : Keeps G w w') (hq : ¬ G q) (hr : ¬ G r) (hG : ∀ i, Rd i → ¬ G i) : RLogIn w' q r fv lv vs Rd R size rec := ⟨k.heap h.heap hq, h.disk.keep k hG hr, fun i hi => Nat.lt_of_lt_of_le (h.rd i hi) k.size, h.off, h.ne⟩
/-- The sorted pages: their numbers, and where their bytes lie. -/
theorem srt_bytes {w : World} {ps : List PageS} {N : Nat} {bl : Nat → List UInt8} {F : Nat → Prop} (hin : inPages N ps = true) (he : grpErr ps ps.length = 0) (hv : ∀ j (hj : j < ps.length), ps[j].len = 512 → ∃ ad, ps[j].a = some ad ∧ bytesAt w ad (bl j) ∧ (bl j).length = 512 ∧ ¬ F ad.block)
    {i : Nat} (hi : i < (srt ps ps.length).length) : ∃ ad c, (srt ps ps.length)[i].val = .slice (some ad) 512 c ∧ bytesAt w ad (grpL ps bl ps.length ((grpKeys (grpVal ps ps.length) N).getD i 0)) ∧ (grpL ps bl ps.length ((grpKeys (grpVal ps ps.length) N).getD i 0)).length = 512 ∧ ¬ F ad.block := by
  have hk := srt_keys ps N hin he
  have e : (grpKeys (grpVal ps ps.length) N).getD i 0 = (srt ps ps.length)[i].n := by
    rw [← hk, List.getD_eq_getElem?_getD, List.getElem?_map, List.getElem?_eq_getElem hi]; rfl
  rw [e]
  exact grpBytes_of he hv _ _ ((srt_facts ps ps.length (Nat.le_refl _) he).2.1 _ (List.getElem_mem hi))
theorem keys_512 {w : World} {ps : List PageS} {N : Nat} {bl : Nat → List UInt8} {F : Nat → Prop} (he : grpErr ps ps.length = 0) (hv : ∀ j (hj : j < ps.length), ps[j].len = 512 → ∃ ad, ps[j].a = some ad ∧ bytesAt w ad (bl j) ∧ (bl j).length = 512 ∧ ¬ F ad.block) : ∀ k ∈ grpKeys (grpVal ps ps.length) N, (grpL ps bl ps.length k).length = 512 := fun k hk => by
  obtain ⟨_, _, c⟩ := mem_grpKeys.1 hk
  obtain ⟨v, hv'⟩ := Option.isSome_iff_exists.1 c
  obtain ⟨_, _, _, _, h, _⟩ := grpBytes_of he hv k v hv'
  exact h
end Go.Proofs.YtjgclmlclkfgpaaGreat
