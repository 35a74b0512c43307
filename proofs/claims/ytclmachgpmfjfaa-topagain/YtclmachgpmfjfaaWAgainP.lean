/- A log that is crashed again and again: plain facts. -/
import Derived.Test.YtclmachgpmfjfaaWTwiceP
namespace Go.Proofs.Ytclmachgpmfjfaa
open Go.RowKit
/-- Whatever the crash, Open tells pages of one of two kinds. -/
structure SafeLog (T : DiskS) (size : Nat) (A B : List (List UInt8)) : Prop where
  made : Made T
  head : ∀ q ch, goodHead T.safe.length size (seenAt (crashedS T q ch) 0)
  opens : ∀ q ch, q ≤ T.ops.length → ∃ P, Opens (crashedS T q ch) size P ∧ (P = A ∨ P = B)
  fits : size + 1 ≤ T.safe.length
theorem safe_com (n size : Nat) (hs : size + 1 ≤ n) (h4 : n ≤ 4096) (ps : List PageS) (bl : Nat → List UInt8) (hb : ∀ j, (bl j).length = 512) :
    SafeLog (comS (freshN n) size ps bl) size (allL (freshN n) size) (allL (comS (freshN n) size ps bl) size) := by
  have hl : (freshN n).safe.length = n := freshN_len n
  have hM : Made (freshN n) := made_fresh _ (by simpa using h4) (fun s hs => by rw [List.eq_of_mem_replicate hs]; exact blank_size)
  have hH := hist_com (hist_fresh n size) hl hs h4 ps bl
  refine ⟨hM.com size ps bl hb (by rw [hl]; exact hs), fun q ch => ?_, fun q ch hq => ?_, by rw [comS_len, hl]; exact hs⟩
  · rw [comS_len, hl]; exact hist_crash hH (by omega) q ch
  · obtain ⟨P, h1, _, _, h2⟩ := crash_opens hM rfl (.inl (by rw [seenAt, freshN_seen n 0 (by omega)]; exact blank_zeros)) size ps bl (by rw [hl]; exact hs) (by rw [hl]; exact h4) q (by show 0 + q ≤ _; rw [Nat.zero_add]; exact hq) ch
    rw [show (freshN n).ops.length + q = q from Nat.zero_add q] at h1
    exact ⟨P, h1, h2⟩
theorem homeOps_zero {size : Nat} {l : Int → List UInt8} {ks : List Int} {s : ByteArray} (hk : ∀ k ∈ ks, 0 ≤ k) (h : .write 0 s ∈ homeOps size l ks) : s = ⟨(headS []).toArray⟩ := by
  rcases List.mem_append.1 h with h | h
  · obtain ⟨k, hk1, e⟩ := List.mem_map.1 h
    have h0 := hk k hk1
    have := congrArg (fun o => match o with | OpS.write n _ => n | .flush => 0) e
    simp at this
    omega
  · simpa using h
theorem safe_open {T : DiskS} {size : Nat} {A B : List (List UInt8)} (h : SafeLog T size A B) (q : Nat) (ch : List UInt8) (hq : q ≤ T.ops.length) :
    ∃ ns, headNums (secL (crashedS T q ch) 0) size (pagesS (crashedS T q ch) size) = some ns ∧ SafeLog (openS (crashedS T q ch) size ns) size A B ∧ (allL (openS (crashedS T q ch) size ns) size = A ∨ allL (openS (crashedS T q ch) size ns) size = B) := by
  have hm := crashed_made h.made q ch
  have hl := crashed_len h.made q ch
  have hg := h.head q ch
  obtain ⟨P, hP, hAB⟩ := h.opens q ch hq
  have hw : (crashedS T q ch).waits = fun _ => [] := rfl
  have ho : (crashedS T q ch).ops = [] := rfl
  have hf : (crashedS T q ch).first = (crashedS T q ch).safe := rfl
  rw [← hl] at hg
  have hfit : size + 1 ≤ (crashedS T q ch).safe.length := by rw [hl]; exact h.fits
  generalize crashedS T q ch = X at *
  obtain ⟨ns, hns, hop⟩ := open_twice hm hw ho hfit hg
  obtain ⟨ns2, hns2, hP2⟩ := hP
  obtain rfl : ns = ns2 := Option.some.inj (hns.symm.trans hns2)
  obtain ⟨f1, f2, f3⟩ := headNums_facts hns
  have hAB2 : allL (openS X size ns) size = A ∨ allL (openS X size ns) size = B := by rw [hP2]; exact hAB
  refine ⟨ns, hns, ⟨hm.opened size ns (by omega) f2 f3 hfit, fun q2 ch2 => ?_, fun q2 ch2 _ => ⟨_, hop q2 ch2, hAB2⟩, by rw [openS_len]; exact hfit⟩, hAB2⟩
  rw [openS_len]
  have hOf : (openS X size ns).first = X.first := by
    unfold openS
    split
    · rfl
    · rw [homeS_doOps]; exact (doOps_facts X _).1
  have hOo : ∀ s, .write 0 s ∈ (openS X size ns).ops → s = ⟨(headS []).toArray⟩ := fun s hs => by
    unfold openS at hs
    split at hs
    · rw [ho] at hs; cases hs
    · rw [homeS_doOps, (doOps_facts X _).2.2, ho, List.nil_append] at hs
      refine homeOps_zero (fun k hk => ?_) hs
      obtain ⟨n, _, rfl⟩ := List.mem_map.1 hk
      omega
  have hL := crashed_left (openS X size ns) q2 ch2
  have hlen : (cutS (openS X size ns) q2).safe.length = X.safe.length := by rw [(cutS_facts _ _).2.1, hOf, hf]
  have hc := hL.cand 0 (by rw [hlen]; omega)
  generalize seenAt (crashedS (openS X size ns) q2 ch2) 0 = s at *
  rcases cand_ops ((openS X size ns).ops.take q2) (freshS (openS X size ns).first) (by show 0 < (openS X size ns).first.length; rw [hOf, hf]; omega) hc with h1 | h1
  · have h2 : s = seenAt X 0 := by
      rcases h1 with h1 | h1
      · have h3 : (openS X size ns).first[0]? = some s := h1
        rw [hOf, hf] at h3
        exact cand_quiet hw (.inl h3)
      · cases h1
    rw [h2]; exact hg
  · exact .inl (.inr (hOo s (List.mem_of_mem_take h1)))
/-- Pages whose numbers are unlike, all of 512 bytes, make a right group. -/
theorem grpErr_zero (ps : List PageS) (h5 : ∀ j (hj : j < ps.length), ps[j].len = 512) (hd : ∀ i j (hi : i < ps.length) (hj : j < ps.length), i < j → ps[i].n ≠ ps[j].n) : ∀ k, k ≤ ps.length → grpErr ps k = 0
  | 0, _ => rfl
  | k + 1, hk => by
    have ih := grpErr_zero ps h5 hd k (by omega)
    have hv : grpVal ps k ps[k].n = none := by
      cases hq : grpVal ps k ps[k].n with
      | none => rfl
      | some v =>
        obtain ⟨j, h1, h2, h3, _, _⟩ := grpVal_some ps (fun _ => []) _ v k hq
        exact absurd h3 (hd j k h2 (by omega) h1)
    rw [grpErr, List.getElem?_eq_getElem (by omega)]
    dsimp only
    rw [if_neg (by rw [hv, h5 k (by omega)]; simp), ih]
end Go.Proofs.Ytclmachgpmfjfaa
