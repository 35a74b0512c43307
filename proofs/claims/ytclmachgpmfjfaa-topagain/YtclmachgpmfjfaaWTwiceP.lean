/- A crash anywhere in a log's life, Open, and a crash within Open: plain facts. -/
import Derived.Test.YtclmachgpmfjfaaWCrashQ
import Derived.Test.YtclmachgpmfjfaaWRef
namespace Go.Proofs.Ytclmachgpmfjfaa
open Go.RowKit
theorem lastD_mem {α : Type} : ∀ (l : List α) (d : α), l ≠ [] → l.getLastD d ∈ l
  | [], _, h => absurd rfl h
  | [a], _, _ => by simp
  | a :: b :: l, d, _ => by
    have := lastD_mem (b :: l) a (by simp)
    rw [List.getLastD_cons]
    exact List.mem_cons_of_mem _ this
theorem cand_seen (S : DiskS) (n : Nat) (h : n < S.safe.length) : Cand S n (seenAt S n) := by
  show _ ∨ seenAt S n ∈ S.waits (n : Int)
  unfold seenAt seenS
  by_cases e : S.waits (n : Int) = []
  · left
    rw [if_pos e, show ((n : Int)).toNat = n by omega, List.getD_eq_getElem?_getD, List.getElem?_eq_getElem h, Option.getD_some]
  · right
    rw [if_neg e]
    exact lastD_mem _ _ e
theorem cand_op {S : DiskS} {n : Nat} {s : ByteArray} (hn : n < S.safe.length) : ∀ {o : OpS}, Cand (doOp S o) n s → Cand S n s ∨ o = .write (n : Int) s
  | .write k t, h => by
    rcases cand_wrote h with h | ⟨h1, h2⟩
    · exact .inl h
    · exact .inr (by rw [h1, h2])
  | .flush, h => by
    left
    have h1 := cand_quiet (B := S.flushed) rfl h
    rw [seenAt_flushed S n hn] at h1
    rw [h1]; exact cand_seen S n hn
theorem cand_ops {n : Nat} {s : ByteArray} : ∀ (l : List OpS) (S : DiskS), n < S.safe.length → Cand (doOps S l) n s → Cand S n s ∨ .write (n : Int) s ∈ l
  | [], _, _, h => .inl h
  | o :: l, S, hn, h => by
    rcases cand_ops l (doOp S o) (by rw [doOp_len]; exact hn) h with h | h
    · rcases cand_op hn h with h | h
      · exact .inl h
      · exact .inr (by rw [h]; exact List.mem_cons_self)
    · exact .inr (List.mem_cons_of_mem _ h)
/-- A head that a log may have. -/
def goodHead (len size : Nat) (s : ByteArray) : Prop := (s.data.toList = zN 512 ∨ s = ⟨(headS []).toArray⟩) ∨ ∃ ks, (∀ X : DiskS, X.safe.length = len → Group X size ks) ∧ s = ⟨(headS (ks.map Int.toNat)).toArray⟩
/-- The life of a log: first noughts, then heads that were right. -/
structure Hist (S : DiskS) (n size : Nat) : Prop where
  first : S.first = List.replicate n blankS
  heads : ∀ s, .write 0 s ∈ S.ops → goodHead n size s
theorem hist_fresh (n size : Nat) : Hist (freshN n) n size := ⟨rfl, fun s hs => by simp [freshN, freshS] at hs⟩
theorem hist_com {S : DiskS} {n size : Nat} (h : Hist S n size) (hl : S.safe.length = n) (hs : size + 1 ≤ n) (h4 : n ≤ 4096) (ps : List PageS) (bl : Nat → List UInt8) : Hist (comS S size ps bl) n size := by
  unfold comS
  split
  · rename_i hc
    have hg := com_group (by rw [hl]; exact hs) (by rw [hl]; exact h4) hc
    generalize grpKeys (grpVal ps ps.length) (pagesS S size) = ks at *
    rw [writtenS_doOps]
    obtain ⟨h1, _, h3⟩ := doOps_facts S (comOps size (grpL ps bl ps.length) ks)
    refine ⟨by rw [h1]; exact h.first, fun s hs2 => ?_⟩
    rw [h3] at hs2
    rcases List.mem_append.1 hs2 with hs2 | hs2
    · exact h.heads s hs2
    · have hne : ∀ i : Nat, ∀ t, (OpS.write 0 s) ≠ .write (1 + (i : Int)) t := fun i t e => by
        have := congrArg (fun o => match o with | OpS.write n _ => n | .flush => 0) e
        simp at this
        omega
      rcases List.mem_append.1 hs2 with hs2 | hs2
      · obtain ⟨i, _, e⟩ := List.mem_map.1 hs2
        exact absurd e.symm (hne i _)
      · rcases List.mem_append.1 hs2 with hs2 | hs2
        · simp only [List.mem_cons, List.mem_nil_iff, or_false, OpS.write.injEq, true_and, reduceCtorEq, false_or] at hs2
          exact .inr ⟨ks, fun X hX => hg.of_len (by rw [hX, hl]), hs2⟩
        · rcases List.mem_append.1 hs2 with hs2 | hs2
          · obtain ⟨k, hk, e⟩ := List.mem_map.1 hs2
            have hk0 := (hg.pages k hk).1
            have := hne (size + k.toNat) ⟨(grpL ps bl ps.length k).toArray⟩
            rw [show (1 : Int) + ((size + k.toNat : Nat) : Int) = 1 + (size : Int) + k by omega] at this
            exact absurd e.symm this
          · simp only [List.mem_cons, List.mem_nil_iff, or_false, OpS.write.injEq, true_and, reduceCtorEq, false_or] at hs2
            exact .inl (.inr hs2)
  · exact h
/-- Behind a crash anywhere. -/
theorem hist_crash {S : DiskS} {n size : Nat} (h : Hist S n size) (hn : 0 < n) (q : Nat) (ch : List UInt8) : goodHead n size (seenAt (crashedS S q ch) 0) := by
  have hL := crashed_left S q ch
  have hlen : (cutS S q).safe.length = n := by rw [(cutS_facts S q).2.1, h.first]; simp
  have hc := hL.cand 0 (by rw [hlen]; exact hn)
  generalize seenAt (crashedS S q ch) 0 = s at *
  rcases cand_ops (S.ops.take q) (freshS S.first) (by show 0 < S.first.length; rw [h.first]; simpa using hn) hc with h1 | h1
  · left; left
    rcases h1 with h1 | h1
    · have h2 : S.first[0]? = some s := h1
      rw [h.first, List.getElem?_replicate, if_pos hn] at h2
      rw [← Option.some.inj h2]; exact blank_zeros
    · cases h1
  · exact h.heads s (List.mem_of_mem_take h1)
/-- What Open makes of a disk with a right head; and a crash within it. -/
theorem open_twice {X : DiskS} {size : Nat} (hM : Made X) (hw : X.waits = fun _ => []) (ho : X.ops = []) (hs : size + 1 ≤ X.safe.length) (hg : goodHead X.safe.length size (seenAt X 0)) :
    ∃ ns, headNums (secL X 0) size (pagesS X size) = some ns ∧ ∀ q ch, Opens (crashedS (openS X size ns) q ch) size (allL (openS X size ns) size) := by
  have h4 : X.safe.length ≤ 4096 := by rw [hM.len]; exact hM.most
  rcases hg with hg | ⟨ks, hks, h0⟩
  · refine ⟨[], headNums_ok hg (by unfold pagesS; omega), fun q ch => ?_⟩
    have hL := crashed_left X q ch
    have hcut : cutS X q = X := by
      have h1 := hM.made
      unfold cutS
      rw [ho] at h1 ⊢
      rw [List.take_nil]; exact h1.symm
    rw [hcut] at hL
    show Opens (crashedS X q ch) size (allL X size)
    generalize crashedS X q ch = Y at *
    have hq : ∀ n, n < X.safe.length → seenAt Y n = seenAt X n := fun n hn => cand_quiet hw (hL.cand n hn)
    have := opens_ok (X := Y) (size := size) (headOk_congr hg (hq 0 (by omega))) (by rw [hL.len]; exact h4)
    rw [allL_by Y size (seenAt X) (fun n a b => by rw [hL.len] at b; exact hq n b), hL.len, ← allL_by X size (seenAt X) (fun _ _ _ => rfl)] at this
    exact this
  · have hgr := hks X rfl
    have hlog : ∀ i, i < ks.length → seenAt X (1 + i) = ⟨(logL X (ks.map Int.toNat) (ks.map Int.toNat).length (ks.getD i 0)).toArray⟩ := fun i hi => by
      have hi' : i < (ks.map Int.toNat).length := by simpa using hi
      have h1 := logL_at X (ks.map Int.toNat) hgr.riseN i hi' (ks.map Int.toNat).length hi' (Nat.le_refl _)
      have e2 : (((ks.map Int.toNat)[i]'hi' : Nat) : Int) = ks.getD i 0 := by
        rw [List.getElem_map, List.getD_eq_getElem?_getD, List.getElem?_eq_getElem hi, Option.getD_some]
        have := (hgr.pages _ (List.getElem_mem hi)).1
        omega
      rw [e2] at h1
      rw [h1]; rfl
    obtain ⟨ns, hns, hP⟩ := opens_head hgr hw h0 hlog
    have hne : ks.map Int.toNat ≠ [] := fun e => by
      have h1 : ks.length = 0 := by simpa using congrArg List.length e
      have := hgr.pos
      omega
    have e0 : secL X 0 = headS (ks.map Int.toNat) := by
      show (seenAt X 0).data.toList = _
      rw [h0]
    have hns2 := headNums_head (ks.map Int.toNat) size (pagesS X size) (by simpa using hgr.le) hgr.riseN hgr.ltN (by unfold pagesS; omega)
    rw [← e0, hns] at hns2
    obtain rfl := Option.some.inj hns2
    refine ⟨_, hns, fun q ch => ?_⟩
    rw [hP]
    have hL := crashed_left (openS X size (ks.map Int.toNat)) q ch
    generalize crashedS (openS X size (ks.map Int.toNat)) q ch = Y at *
    unfold openS at hL
    rw [if_neg hne, homeS_doOps, hgr.nats] at hL
    have hc := cut_more hM (homeOps size (logL X (ks.map Int.toNat) (ks.map Int.toNat).length) ks) q
    rw [ho, List.length_nil, Nat.zero_add] at hc
    rw [hc] at hL
    exact home_crash hgr hw h0 hlog q Y hL
end Go.Proofs.Ytclmachgpmfjfaa
