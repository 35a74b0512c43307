/- What a crash within a Commit, or within Open, leaves; what Open makes of it: plain facts. -/
import Derived.Test.YtkkmbgjlmdddoabGreatWHead
import Derived.Test.YtkkmbgjlmdddoabGreatAllP
import Derived.Test.YtkkmbgjlmdddoabGreatBaseB
namespace Go.Proofs.YtkkmbgjlmdddoabGreat
open Go.RowKit
/-- What a sector may be behind a crash: what was safe, or one of its writes. -/
def Cand (C : DiskS) (n : Nat) (s : ByteArray) : Prop := C.safe[n]? = some s ∨ s ∈ C.waits (n : Int)
/-- X is what a crash left of C. -/
structure Left (C X : DiskS) : Prop where
  waits : X.waits = fun _ => []
  ops : X.ops = []
  len : X.safe.length = C.safe.length
  cand : ∀ n, n < C.safe.length → Cand C n (seenAt X n)
theorem crashL_in (waits : Int → List ByteArray) (n : Nat) : ∀ (nk : List (Int × Int)) (left : List ByteArray), (∀ p ∈ nk, 0 ≤ p.1 ∧ (0 < p.2 → p.2.toNat - 1 < (waits p.1).length)) →
    (crashL waits left nk)[n]? = left[n]? ∨ ∃ s ∈ waits (n : Int), (crashL waits left nk)[n]? = some s
  | [], left, _ => .inl rfl
  | p :: r, left, h => by
    have ih := crashL_in waits n r (if 0 < p.2 then left.set p.1.toNat ((waits p.1).getD (p.2.toNat - 1) ⟨#[]⟩) else left) (fun x hx => h x (by simp [hx]))
    have e : crashL waits left (p :: r) = crashL waits (if 0 < p.2 then left.set p.1.toNat ((waits p.1).getD (p.2.toNat - 1) ⟨#[]⟩) else left) r := rfl
    rw [e]
    obtain ⟨h0, h1⟩ := h p (by simp)
    rcases ih with ih | ih
    · rw [ih]
      by_cases hp : 0 < p.2
      · rw [if_pos hp]
        by_cases hn : p.1.toNat = n
        · subst hn
          by_cases hl : p.1.toNat < left.length
          · refine .inr ⟨(waits p.1).getD (p.2.toNat - 1) ⟨#[]⟩, ?_, List.getElem?_set_self hl⟩
            rw [show ((p.1.toNat : Nat) : Int) = p.1 by omega, List.getD_eq_getElem?_getD, List.getElem?_eq_getElem (h1 hp), Option.getD_some]
            exact List.getElem_mem _
          · left
            rw [List.getElem?_eq_none (by simp; omega), List.getElem?_eq_none (by omega)]
        · left
          rw [List.getElem?_set_ne hn]
      · rw [if_neg hp]; exact .inl rfl
    · exact .inr ih
theorem good_pairs {waits : Int → List ByteArray} {N : Nat} {keep : List Int} (h : goodKeep waits N keep) : ∀ p ∈ (waitKeys waits N).zip keep, 0 ≤ p.1 ∧ (0 < p.2 → p.2.toNat - 1 < (waits p.1).length) := by
  intro p hp
  obtain ⟨j, hj, rfl⟩ := List.getElem_of_mem hp
  rw [List.length_zip] at hj
  rw [List.getElem_zip]
  have h1 : j < (waitKeys waits N).length := by omega
  have h2 := ((goodKeep_iff _ _ _).1 h).2 j (by omega) h1
  refine ⟨(mem_waitKeys.1 (List.getElem_mem h1)).1, fun h3 => ?_⟩
  simp only at h3 ⊢
  omega
theorem seenAt_fresh (xs : List ByteArray) (n : Nat) (h : n < xs.length) : seenAt (freshS xs) n = xs[n] := by
  unfold seenAt seenS
  rw [if_pos (show (freshS xs).waits (n : Int) = [] from rfl), show ((n : Int)).toNat = n by omega, List.getD_eq_getElem?_getD]
  show (xs[n]?).getD _ = _
  rw [List.getElem?_eq_getElem h, Option.getD_some]
theorem left_crash (C : DiskS) (keep : List Int) (h : goodKeep C.waits C.safe.length keep) : Left C (freshS (crashL C.waits C.safe ((waitKeys C.waits C.safe.length).zip keep))) := by
  have hl : (crashL C.waits C.safe ((waitKeys C.waits C.safe.length).zip keep)).length = C.safe.length := length_crashL _ _ _
  refine ⟨rfl, rfl, hl, fun n hn => ?_⟩
  rw [seenAt_fresh _ n (by rw [hl]; exact hn)]
  rcases crashL_in C.waits n _ C.safe (good_pairs h) with h1 | ⟨s, hs, h1⟩
  · left
    rw [← h1, List.getElem?_eq_getElem (by rw [hl]; exact hn)]
  · right
    rw [List.getElem?_eq_getElem (by rw [hl]; exact hn)] at h1
    rw [Option.some.inj h1]; exact hs
theorem cand_quiet {B : DiskS} {n : Nat} {s : ByteArray} (h : B.waits = fun _ => []) (hc : Cand B n s) : s = seenAt B n := by
  rcases hc with hc | hc
  · show _ = if B.waits (n : Int) = [] then B.safe.getD ((n : Int)).toNat ⟨#[]⟩ else _
    rw [h, if_pos rfl, show ((n : Int)).toNat = n by omega, List.getD_eq_getElem?_getD, hc, Option.getD_some]
  · rw [h] at hc; cases hc
theorem cand_wrote {C : DiskS} {n : Nat} {k : Int} {s t : ByteArray} (hc : Cand (C.wrote k t) n s) : Cand C n s ∨ ((n : Int) = k ∧ s = t) := by
  rcases hc with hc | hc
  · exact .inl (.inl hc)
  · by_cases e : (n : Int) = k
    · rw [show (C.wrote k t).waits (n : Int) = C.waits k ++ [t] by rw [e]; exact upd_same _ _ _] at hc
      rcases List.mem_append.1 hc with h | h
      · exact .inl (.inr (by rw [e]; exact h))
      · exact .inr ⟨e, List.mem_singleton.1 h⟩
    · rw [show (C.wrote k t).waits (n : Int) = C.waits (n : Int) from upd_other _ _ e] at hc
      exact .inl (.inr hc)
theorem cand_home {size : Nat} {l : Int → List UInt8} {n : Nat} {s : ByteArray} : ∀ (ks : List Int) (C : DiskS), Cand (homeTo C size l ks) n s → Cand C n s ∨ ∃ k ∈ ks, (n : Int) = 1 + (size : Int) + k ∧ s = ⟨(l k).toArray⟩
  | [], _, h => .inl h
  | k :: ks, C, h => by
    rcases cand_home ks (C.wrote (1 + (size : Int) + k) ⟨(l k).toArray⟩) h with h | ⟨q, hq, h1, h2⟩
    · rcases cand_wrote h with h | ⟨h1, h2⟩
      · exact .inl h
      · exact .inr ⟨k, List.mem_cons_self, h1, h2⟩
    · exact .inr ⟨q, List.mem_cons_of_mem _ hq, h1, h2⟩
theorem cand_log {l : Int → List UInt8} {ks : List Int} {n : Nat} {s : ByteArray} {S : DiskS} : ∀ j, Cand (logTo S l ks j) n s → Cand S n s ∨ (0 < n ∧ n ≤ j)
  | 0, h => .inl h
  | j + 1, h => by
    rw [show logTo S l ks (j + 1) = (logTo S l ks j).wrote (1 + (j : Int)) ⟨(l (ks.getD j 0)).toArray⟩ by simp [logTo, List.range_succ, List.foldl_append]] at h
    rcases cand_wrote h with h | ⟨h, _⟩
    · exact (cand_log j h).imp id (fun h => ⟨h.1, by omega⟩)
    · exact .inr (by omega)
theorem seen_log (S : DiskS) (l : Int → List UInt8) (ks : List Int) (i : Nat) : ∀ j, i < j → seenAt (logTo S l ks j) (1 + i) = ⟨(l (ks.getD i 0)).toArray⟩
  | 0, h => by omega
  | j + 1, h => by
    rw [show logTo S l ks (j + 1) = (logTo S l ks j).wrote (1 + (j : Int)) ⟨(l (ks.getD j 0)).toArray⟩ by simp [logTo, List.range_succ, List.foldl_append]]
    by_cases e : i = j
    · subst e
      exact seenAt_same _ _ _ _ (by omega)
    · rw [seenAt_other _ _ _ _ (by omega)]
      exact seen_log S l ks i j (by omega)
/-- Sector n, with the pages of a group at their homes. -/
def newAt (S : DiskS) (size : Nat) (l : Int → List UInt8) (ks : List Int) (n : Nat) : ByteArray := if ((n : Int) - 1 - (size : Int)) ∈ ks then ⟨(l ((n : Int) - 1 - (size : Int))).toArray⟩ else seenAt S n
def pagesBy (len size : Nat) (f : Nat → ByteArray) : List (List UInt8) := (List.range (min (len - 1 - size) 100)).map (fun n => (f (1 + size + n)).data.toList)
theorem allL_by (X : DiskS) (size : Nat) (f : Nat → ByteArray) (h : ∀ n, size < n → n < X.safe.length → seenAt X n = f n) : allL X size = pagesBy X.safe.length size f := by
  unfold allL pagesBy pagesS
  refine List.map_congr_left (fun n hn => ?_)
  have hn' := List.mem_range.1 hn
  show (seenAt X (1 + size + n)).data.toList = _
  rw [h _ (by omega) (by omega)]
/-- Open of X tells these pages. -/
def Opens (X : DiskS) (size : Nat) (P : List (List UInt8)) : Prop := ∃ ns, headNums (secL X 0) size (pagesS X size) = some ns ∧ allL (openS X size ns) size = P
theorem opens_ok {X : DiskS} {size : Nat} (h : headOk X) (hl : X.safe.length ≤ 4096) : Opens X size (allL X size) := ⟨[], headNums_ok h (by unfold pagesS; omega), rfl⟩
/-- A group whose numbers rise, and are of pages. -/
structure Group (S : DiskS) (size : Nat) (ks : List Int) : Prop where
  rise : ks.Pairwise (fun a b => a < b)
  le : ks.length ≤ min size 100
  pos : 0 < ks.length
  pages : ∀ k ∈ ks, 0 ≤ k ∧ k < (pagesS S size : Nat)
  fits : size + 1 ≤ S.safe.length
  most : S.safe.length ≤ 4096
theorem Group.nats {S : DiskS} {size : Nat} {ks : List Int} (h : Group S size ks) : natsZ (ks.map Int.toNat) = ks := natsZ_toNat ks (fun k hk => (h.pages k hk).1)
theorem Group.riseN {S : DiskS} {size : Nat} {ks : List Int} (h : Group S size ks) : (ks.map Int.toNat).Pairwise (fun a b => a < b) := by
  refine List.pairwise_map.2 (h.rise.imp_of_mem (fun {a b} ha hb hab => ?_))
  have h1 := (h.pages a ha).1
  omega
theorem Group.ltN {S : DiskS} {size : Nat} {ks : List Int} (h : Group S size ks) : ∀ n ∈ ks.map Int.toNat, n < pagesS S size := fun n hn => by
  obtain ⟨k, hk, rfl⟩ := List.mem_map.1 hn
  have := h.pages k hk
  omega
theorem opens_head {X : DiskS} {size : Nat} {l : Int → List UInt8} {ks : List Int} (hg : Group X size ks) (_hw : X.waits = fun _ => []) (h0 : seenAt X 0 = ⟨(headS (ks.map Int.toNat)).toArray⟩)
    (hlog : ∀ i, i < ks.length → seenAt X (1 + i) = ⟨(l (ks.getD i 0)).toArray⟩) : Opens X size (pagesBy X.safe.length size (newAt X size l ks)) := by
  have e0 : secL X 0 = headS (ks.map Int.toNat) := by
    show (seenAt X 0).data.toList = _
    rw [h0]
  have hne : ks.map Int.toNat ≠ [] := fun e => by
    have h1 : ks.length = 0 := by simpa using congrArg List.length e
    have := hg.pos
    omega
  refine ⟨ks.map Int.toNat, ?_, ?_⟩
  · rw [e0]
    exact headNums_head _ size _ (by simpa using hg.le) hg.riseN hg.ltN (by have := hg.most; unfold pagesS; omega)
  · have hlen : (openS X size (ks.map Int.toNat)).safe.length = X.safe.length := by
      unfold openS; rw [if_neg hne, homeS_len]
    rw [← hlen]
    refine allL_by _ _ _ (fun n h1 h2 => ?_)
    rw [hlen] at h2
    unfold openS
    rw [if_neg hne, hg.nats, seen_homeS X size _ ks n h2 (fun k hk => (hg.pages k hk).1), if_neg (by omega)]
    unfold newAt
    by_cases hk : ((n : Int) - 1 - (size : Int)) ∈ ks
    · rw [if_pos ⟨h1, hk⟩, if_pos hk]
      obtain ⟨j, hj, e⟩ := List.mem_iff_getElem.1 hk
      have hj' : j < (ks.map Int.toNat).length := by simpa using hj
      have hb := logL_at X (ks.map Int.toNat) hg.riseN j hj' (ks.map Int.toNat).length hj' (Nat.le_refl _)
      have e2 : (((ks.map Int.toNat)[j]'hj' : Nat) : Int) = (n : Int) - 1 - (size : Int) := by
        rw [List.getElem_map, ← e]
        have := (hg.pages _ (List.getElem_mem hj)).1
        omega
      rw [e2] at hb
      rw [hb]
      have h3 := hlog j hj
      rw [List.getD_eq_getElem?_getD, List.getElem?_eq_getElem hj, Option.getD_some, e] at h3
      show (⟨((seenAt X (1 + j)).data.toList).toArray⟩ : ByteArray) = _
      rw [h3]
    · rw [if_neg (fun h => hk h.2), if_neg hk]
theorem Group.of_len {S X : DiskS} {size : Nat} {ks : List Int} (h : Group S size ks) (hl : X.safe.length = S.safe.length) : Group X size ks := ⟨h.rise, h.le, h.pos, by unfold pagesS; rw [hl]; exact h.pages, by rw [hl]; exact h.fits, by rw [hl]; exact h.most⟩
theorem newAt_congr {S X : DiskS} {size : Nat} {l : Int → List UInt8} {ks : List Int} {n : Nat} (h : ((n : Int) - 1 - (size : Int)) ∉ ks → seenAt X n = seenAt S n) : newAt X size l ks n = newAt S size l ks n := by
  unfold newAt
  split
  · rfl
  · rename_i hk; exact h hk
theorem pagesBy_congr {len size : Nat} {f g : Nat → ByteArray} (h : ∀ n, size < n → n < len → f n = g n) : pagesBy len size f = pagesBy len size g := by
  unfold pagesBy
  refine List.map_congr_left (fun n hn => ?_)
  have := List.mem_range.1 hn
  rw [h _ (by omega) (by omega)]
/-- A crash while pages are brought home. -/
theorem home_crash {D : DiskS} {size : Nat} {l : Int → List UInt8} {ks : List Int} (hg : Group D size ks) (hw : D.waits = fun _ => []) (h0 : seenAt D 0 = ⟨(headS (ks.map Int.toNat)).toArray⟩)
    (hlog : ∀ i, i < ks.length → seenAt D (1 + i) = ⟨(l (ks.getD i 0)).toArray⟩) (r : Nat) (X : DiskS) (hX : Left (doOps D ((homeOps size l ks).take r)) X) : Opens X size (pagesBy D.safe.length size (newAt D size l ks)) := by
  have hle := hg.le
  have hpos : ∀ k ∈ ks, 0 ≤ k := fun k hk => (hg.pages k hk).1
  have hlH : (homeTo D size l ks).safe.length = D.safe.length := by rw [(homeTo_facts size l ks D).1]
  -- with the head that names the group
  have key : ∀ X : DiskS, X.waits = (fun _ => []) → X.safe.length = D.safe.length → seenAt X 0 = ⟨(headS (ks.map Int.toNat)).toArray⟩ → (∀ n, 0 < n → n ≤ size → n < D.safe.length → seenAt X n = seenAt D n) →
      (∀ n, size < n → n < D.safe.length → ((n : Int) - 1 - (size : Int)) ∉ ks → seenAt X n = seenAt D n) → Opens X size (pagesBy D.safe.length size (newAt D size l ks)) := fun X hw hl h1 h2 h3 => by
    have := opens_head (hg.of_len hl) hw h1 (l := l) (fun i hi => by rw [h2 (1 + i) (by omega) (by omega) (by have := hg.fits; omega)]; exact hlog i hi)
    rw [hl, pagesBy_congr (g := newAt D size l ks) (fun n a b => newAt_congr (h3 n a b))] at this
    exact this
  have hfull : (homeOps size l ks).length = ks.length + 3 := by simp [homeOps]
  rcases Nat.lt_or_ge r (ks.length + 1) with hr | hr
  · have e : (homeOps size l ks).take r = (ks.take r).map (fun n => .write (1 + (size : Int) + n) ⟨(l n).toArray⟩) := by
      unfold homeOps
      rw [List.take_append_of_le_length (by simp; omega), List.map_take]
    rw [e, ← homeTo_ops] at hX
    have hl2 : (homeTo D size l (ks.take r)).safe.length = D.safe.length := by rw [(homeTo_facts size l (ks.take r) D).1]
    have hc : ∀ n, n < D.safe.length → seenAt X n = seenAt D n ∨ ∃ k ∈ ks, (n : Int) = 1 + (size : Int) + k := fun n hn => by
      rcases cand_home _ _ (hX.cand n (by rw [hl2]; exact hn)) with h | ⟨k, hk, h1, _⟩
      · exact .inl (cand_quiet hw h)
      · exact .inr ⟨k, List.mem_of_mem_take hk, h1⟩
    refine key X hX.waits (by rw [hX.len, hl2]) ?_ (fun n a b c => ?_) (fun n a b c => ?_)
    · rcases hc 0 (by have := hg.fits; omega) with h | ⟨k, hk, h⟩
      · rw [h, h0]
      · have := hpos k hk; omega
    · rcases hc n c with h | ⟨k, hk, h⟩
      · exact h
      · have := hpos k hk; omega
    · rcases hc n b with h | ⟨k, hk, h⟩
      · exact h
      · exact absurd (by rw [show (n : Int) - 1 - (size : Int) = k by omega]; exact hk) c
  · -- the homes are safe
    obtain ⟨B, hB⟩ : ∃ B, B = (homeTo D size l ks).flushed := ⟨_, rfl⟩
    have hBl : B.safe.length = D.safe.length := by rw [hB, len_flushed, hlH]
    have hBs : ∀ n, n < D.safe.length → seenAt B n = if size < n ∧ ((n : Int) - 1 - (size : Int)) ∈ ks then ⟨(l ((n : Int) - 1 - (size : Int))).toArray⟩ else seenAt D n := fun n hn => by
      rw [hB, seenAt_flushed _ n (by rw [hlH]; exact hn), seen_homeTo size l n ks D hpos]
    have hBw : B.waits = fun _ => [] := by rw [hB]; rfl
    have hnew : ∀ X : DiskS, X.safe.length = D.safe.length → headOk X → (∀ n, 0 < n → n < D.safe.length → seenAt X n = seenAt B n) → Opens X size (pagesBy D.safe.length size (newAt D size l ks)) := fun X hl h1 h2 => by
      have := opens_ok (X := X) (size := size) h1 (by rw [hl]; exact hg.most)
      rw [allL_by X size (newAt D size l ks) (fun n a b => by
        rw [hl] at b
        rw [h2 n (by omega) b, hBs n b]
        unfold newAt
        by_cases hk : ((n : Int) - 1 - (size : Int)) ∈ ks
        · rw [if_pos ⟨a, hk⟩, if_pos hk]
        · rw [if_neg (fun h => hk h.2), if_neg hk]), hl] at this
      exact this
    have hold : ∀ X : DiskS, X.waits = (fun _ => []) → X.safe.length = D.safe.length → (∀ n, n < D.safe.length → seenAt X n = seenAt B n) → Opens X size (pagesBy D.safe.length size (newAt D size l ks)) := fun X hw hl h1 => by
      refine key X hw hl ?_ (fun n a b c => ?_) (fun n a b c => ?_)
      · rw [h1 0 (by have := hg.fits; omega), hBs 0 (by have := hg.fits; omega), if_neg (by omega), h0]
      · rw [h1 n c, hBs n c, if_neg (by omega)]
      · rw [h1 n b, hBs n b, if_neg (fun h => c h.2)]
    have e0 : (homeOps size l ks).take (ks.length + 1) = ks.map (fun n => .write (1 + (size : Int) + n) ⟨(l n).toArray⟩) ++ [.flush] := by
      unfold homeOps
      rw [List.take_append, List.length_map, List.take_of_length_le (by simp), Nat.add_sub_cancel_left]; rfl
    have e1 : (homeOps size l ks).take (ks.length + 2) = ks.map (fun n => .write (1 + (size : Int) + n) ⟨(l n).toArray⟩) ++ [.flush, .write 0 ⟨(headS []).toArray⟩] := by
      unfold homeOps
      rw [List.take_append, List.length_map, List.take_of_length_le (by simp), Nat.add_sub_cancel_left]; rfl
    rcases Nat.lt_or_ge r (ks.length + 2) with hr2 | hr2
    · obtain rfl : r = ks.length + 1 := by omega
      rw [e0, doOps_append, ← homeTo_ops] at hX
      have hX' : Left B X := by rw [hB]; exact hX
      exact hold X hX'.waits (by rw [hX'.len, hBl]) (fun n hn => cand_quiet hBw (hX'.cand n (by rw [hBl]; exact hn)))
    · rcases Nat.lt_or_ge r (ks.length + 3) with hr3 | hr3
      · obtain rfl : r = ks.length + 2 := by omega
        rw [e1, doOps_append, ← homeTo_ops] at hX
        have hX' : Left (B.wrote 0 ⟨(headS []).toArray⟩) X := by rw [hB]; exact hX
        have hl' : X.safe.length = D.safe.length := by rw [hX'.len, len_wrote, hBl]
        have hoth : ∀ n, 0 < n → n < D.safe.length → seenAt X n = seenAt B n := fun n a b => by
          rcases cand_wrote (hX'.cand n (by rw [len_wrote, hBl]; exact b)) with h | ⟨h, _⟩
          · exact cand_quiet hBw h
          · omega
        rcases cand_wrote (hX'.cand 0 (by rw [len_wrote, hBl]; have := hg.fits; omega)) with h | ⟨_, h⟩
        · refine hold X hX'.waits hl' (fun n hn => ?_)
          rcases Nat.eq_zero_or_pos n with rfl | hp
          · exact cand_quiet hBw h
          · exact hoth n hp hn
        · exact hnew X hl' (.inr h) hoth
      · have e3 : (homeOps size l ks).take r = homeOps size l ks := List.take_of_length_le (by omega)
        rw [e3, ← homeS_doOps] at hX
        have hX' : Left (B.wrote 0 ⟨(headS []).toArray⟩).flushed X := by rw [hB]; exact hX
        have hq : ∀ n, n < D.safe.length → seenAt X n = seenAt (B.wrote 0 ⟨(headS []).toArray⟩) n := fun n hn => by
          rw [cand_quiet rfl (hX'.cand n (by rw [len_flushed, len_wrote, hBl]; exact hn)), seenAt_flushed _ n (by rw [len_wrote, hBl]; exact hn)]
        refine hnew X (by rw [hX'.len, len_flushed, len_wrote, hBl]) (.inr ?_) (fun n a b => ?_)
        · rw [hq 0 (by have := hg.fits; omega)]; exact seenAt_same _ 0 0 _ rfl
        · rw [hq n b, seenAt_other _ n _ _ (by omega)]
theorem take_mid (Z : List OpS) (a b c : OpS) (q : Nat) : ([a, b, c] ++ Z).take (3 + q) = [a, b, c] ++ Z.take q := by
  rw [List.take_append, List.take_of_length_le (show ([a, b, c]).length ≤ 3 + q from Nat.le_add_right 3 q), show 3 + q - ([a, b, c]).length = q from Nat.add_sub_cancel_left 3 q]
theorem headOk_congr {S X : DiskS} (h : headOk S) (e : seenAt X 0 = seenAt S 0) : headOk X := by
  unfold headOk
  rw [e]; exact h
/-- A crash within a Commit. -/
theorem com_crash {S : DiskS} {size : Nat} {l : Int → List UInt8} {ks : List Int} (hg : Group S size ks) (hw : S.waits = fun _ => []) (hh : headOk S) (r : Nat) (X : DiskS) (hX : Left (doOps S ((comOps size l ks).take r)) X) :
    (r ≤ ks.length + 2 ∧ Opens X size (allL S size)) ∨ (ks.length + 2 ≤ r ∧ Opens X size (pagesBy S.safe.length size (newAt S size l ks))) := by
  have hle := hg.le
  have hfit := hg.fits
  have hpos : ∀ k ∈ ks, 0 ≤ k := fun k hk => (hg.pages k hk).1
  have hll : ∀ j, (logOps l ks j).length = j := fun j => by simp [logOps]
  have hold : ∀ X : DiskS, X.safe.length = S.safe.length → (∀ n, (n = 0 ∨ size < n) → n < S.safe.length → seenAt X n = seenAt S n) → Opens X size (allL S size) := fun X hl h => by
    have := opens_ok (X := X) (size := size) (headOk_congr hh (h 0 (.inl rfl) (by omega))) (by rw [hl]; exact hg.most)
    rw [allL_by X size (seenAt S) (fun n a b => by rw [hl] at b; exact h n (.inr a) b), hl, ← allL_by S size (seenAt S) (fun _ _ _ => rfl)] at this
    exact this
  have hlL : ∀ j, (logTo S l ks j).safe.length = S.safe.length := fun j => by rw [(logTo_facts S l ks j).1]
  rcases Nat.lt_or_ge r (ks.length + 1) with hr | hr
  · left
    have e : (comOps size l ks).take r = logOps l ks r := by
      unfold comOps
      rw [List.take_append_of_le_length (by rw [hll]; omega)]
      unfold logOps
      rw [← List.map_take, List.take_range, Nat.min_eq_left (by omega)]
    rw [e, ← logTo_ops] at hX
    refine ⟨by omega, hold X (by rw [hX.len, hlL]) (fun n a b => ?_)⟩
    rcases cand_log r (hX.cand n (by rw [hlL]; exact b)) with h | h
    · exact cand_quiet hw h
    · omega
  · obtain ⟨B, hB⟩ : ∃ B, B = (logTo S l ks ks.length).flushed := ⟨_, rfl⟩
    have hBl : B.safe.length = S.safe.length := by rw [hB, len_flushed, hlL]
    have hBw : B.waits = fun _ => [] := by rw [hB]; rfl
    have hBs : ∀ n, (n = 0 ∨ size < n) → n < S.safe.length → seenAt B n = seenAt S n := fun n a b => by
      rw [hB, seenAt_flushed _ n (by rw [hlL]; exact b), seen_logTo S l ks n ks.length (by omega)]
    have hBL : ∀ i, i < ks.length → seenAt B (1 + i) = ⟨(l (ks.getD i 0)).toArray⟩ := fun i hi => by
      rw [hB, seenAt_flushed _ _ (by rw [hlL]; omega), seen_log S l ks i ks.length hi]
    have ht : ∀ q, (comOps size l ks).take (ks.length + q) = logOps l ks ks.length ++ ([OpS.flush, OpS.write 0 ⟨(headS (ks.map Int.toNat)).toArray⟩, OpS.flush] ++ homeOps size l ks).take q := fun q => by
      unfold comOps
      rw [List.take_append, hll, Nat.add_sub_cancel_left, List.take_of_length_le (by rw [hll]; omega)]
    rcases Nat.lt_or_ge r (ks.length + 2) with hr2 | hr2
    · left
      obtain rfl : r = ks.length + 1 := by omega
      rw [ht 1, doOps_append, ← logTo_ops] at hX
      have hX' : Left B X := by rw [hB]; exact hX
      refine ⟨by omega, hold X (by rw [hX'.len, hBl]) (fun n a b => ?_)⟩
      rw [cand_quiet hBw (hX'.cand n (by rw [hBl]; exact b)), hBs n a b]
    · rcases Nat.lt_or_ge r (ks.length + 3) with hr3 | hr3
      · obtain rfl : r = ks.length + 2 := by omega
        rw [ht 2, doOps_append, ← logTo_ops] at hX
        have hX' : Left (B.wrote 0 ⟨(headS (ks.map Int.toNat)).toArray⟩) X := by rw [hB]; exact hX
        have hl' : X.safe.length = S.safe.length := by rw [hX'.len, len_wrote, hBl]
        have hoth : ∀ n, 0 < n → n < S.safe.length → seenAt X n = seenAt B n := fun n a b => by
          rcases cand_wrote (hX'.cand n (by rw [len_wrote, hBl]; exact b)) with h | ⟨h, _⟩
          · exact cand_quiet hBw h
          · omega
        rcases cand_wrote (hX'.cand 0 (by rw [len_wrote, hBl]; omega)) with h | ⟨_, h⟩
        · left
          refine ⟨Nat.le_refl _, hold X hl' (fun n a b => ?_)⟩
          rcases Nat.eq_zero_or_pos n with rfl | hp
          · rw [cand_quiet hBw h, hBs 0 a b]
          · rw [hoth n hp b, hBs n a b]
        · right
          refine ⟨Nat.le_refl _, ?_⟩
          have := opens_head (hg.of_len hl') hX'.waits h (l := l) (fun i hi => by rw [hoth (1 + i) (by omega) (by omega)]; exact hBL i hi)
          rw [hl', pagesBy_congr (g := newAt S size l ks) (fun n a b => newAt_congr (fun _ => by rw [hoth n (by omega) b, hBs n (.inr a) b]))] at this
          exact this
      · right
        refine ⟨by omega, ?_⟩
        obtain ⟨D, hD⟩ : ∃ D, D = (B.wrote 0 ⟨(headS (ks.map Int.toNat)).toArray⟩).flushed := ⟨_, rfl⟩
        have hDl : D.safe.length = S.safe.length := by rw [hD, len_flushed, len_wrote, hBl]
        have hDs : ∀ n, n < S.safe.length → seenAt D n = seenAt (B.wrote 0 ⟨(headS (ks.map Int.toNat)).toArray⟩) n := fun n hn => by rw [hD, seenAt_flushed _ n (by rw [len_wrote, hBl]; exact hn)]
        obtain ⟨q, rfl⟩ : ∃ q, r = ks.length + (3 + q) := ⟨r - ks.length - 3, by omega⟩
        rw [ht (3 + q), doOps_append, ← logTo_ops, take_mid (homeOps size l ks) _ _ _ q, doOps_append] at hX
        have hX' : Left (doOps D ((homeOps size l ks).take q)) X := by rw [hD, hB]; exact hX
        have := home_crash (hg.of_len hDl) (by rw [hD]; rfl) (l := l) (by rw [hDs 0 (by omega)]; exact seenAt_same _ 0 0 _ rfl) (fun i hi => by rw [hDs (1 + i) (by omega), seenAt_other _ _ _ _ (by omega)]; exact hBL i hi) q X hX'
        rw [hDl, pagesBy_congr (g := newAt S size l ks) (fun n a b => newAt_congr (fun _ => by rw [hDs n b, seenAt_other _ _ _ _ (by omega), hBs n (.inr a) b]))] at this
        exact this
end Go.Proofs.YtkkmbgjlmdddoabGreat
