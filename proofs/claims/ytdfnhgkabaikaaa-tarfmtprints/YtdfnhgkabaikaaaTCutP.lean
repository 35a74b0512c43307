/- A tar that is cut, or has a byte of a header changed, is none. -/
import Derived.Test.YtdfnhgkabaikaaaTTar
import Derived.Test.YtdfnhgkabaikaaaTSumsW
namespace Go.Proofs.Ytdfnhgkabaikaaa
theorem readP_zero (k : Nat) : readP (List.replicate k 0) = none := by
  unfold readP
  rw [List.length_replicate]
  split
  · rfl
  · rename_i h
    have h1 : fld ((List.replicate k (0 : UInt8)).take 512) 148 8 = List.replicate 8 0 := by
      rw [List.take_replicate, Nat.min_eq_left (by omega), fld_zero _ _ _ (by omega)]
    have h2 : sumF (List.replicate 8 0) = (0, false) := by decide +kernel
    rw [h1, h2, if_pos (.inl rfl)]
theorem not_noughts {bs : List UInt8} {i : Nat} {x : UInt8} (h : bs[i]? = some x) (hx : (x == 0) = false) : endP bs = false := by
  have h4 : noughts bs = false := by
    cases hq : noughts bs with
    | false => rfl
    | true =>
      have := List.all_eq_true.1 hq x (List.mem_of_getElem? h)
      rw [hx] at this
      cases this
  unfold endP
  rw [h4]
  simp
theorem blk_sign {e : EN} (h : rightE e = 0) (C : List UInt8) : (blkE e ++ C)[257]? = some 117 ∧ (blkE e ++ C)[258]? = some 115 := by
  obtain ⟨p, r, s, hd, -⟩ := blkE_hd h C
  have h1 := fld_at (blkE e ++ C) 257 8 0
  have h2 := fld_at (blkE e ++ C) 257 8 1
  have h3 := hd.f257
  rw [Nat.zero_add] at h3
  rw [h3] at h1 h2
  exact ⟨h1.symm, h2.symm⟩
theorem readP_short {e : EN} (h : rightE e = 0) {k : Nat} (hk : k < bsz e) : readP ((blkE e).take k) = none ∧ endP ((blkE e).take k) = false := by
  obtain ⟨p, r, s, hd, hp, hs, h8⟩ := blkE_hd h []
  rw [List.append_nil] at hd hs
  have hl := blkE_len h
  have h0 := (right_all h).2.2.2.2.2.2.2.2
  have hlt : ((blkE e).take k).length = k := by rw [List.length_take]; omega
  by_cases h5 : k < 512
  · refine ⟨?_, ?_⟩
    · unfold readP
      rw [hlt, if_pos h5]
    · unfold endP
      rw [hlt, decide_eq_false (by omega)]
      rfl
  · refine ⟨?_, ?_⟩
    · have ht : ((blkE e).take k).take 512 = fld (blkE e) 0 512 := by
        rw [List.take_take, Nat.min_eq_left (by omega)]; rfl
      have hsz : sizeP (fld (blkE e) 0 512) = e.data.length := by
        unfold sizeP
        rw [fld_fld (by omega)]
        have := hd.f124
        rw [this, numF_oct _ _ (by omega)]
      unfold readP
      rw [hlt, if_neg h5, ht, hsz]
      split
      · rfl
      · split
        · rfl
        · rw [if_pos (.inl (by unfold bsz at hk; omega))]
    · have := (blk_sign h []).1
      rw [List.append_nil] at this
      exact not_noughts (i := 257) (x := 117) (by rw [List.getElem?_take_of_lt (by omega)]; exact this) rfl
/-- A tar that is cut short is none. -/
theorem parse_cut : ∀ {l : List EN} (f at_ : Nat) (acc : List EN) (k : Nat), (∀ e ∈ l, rightE e = 0) → k < (tarB l).length → ∃ m, parseF f ((tarB l).take k) at_ acc = (none, m) ∧ m ≤ at_ + k
  | _, 0, at_, _, k, _, _ => ⟨at_, rfl, by omega⟩
  | [], f + 1, at_, acc, k, _, hk => by
    have hk' : k < 1024 := by
      have : (tarB []).length = 1024 := by unfold tarB flat; rw [List.flatMap_nil, List.nil_append, List.length_replicate]
      omega
    have ht : (tarB []).take k = List.replicate k 0 := by
      unfold tarB flat
      rw [List.flatMap_nil, List.nil_append, List.take_replicate, Nat.min_eq_left (by omega)]
    refine ⟨at_, ?_, by omega⟩
    rw [ht]
    unfold parseF
    have he : endP (List.replicate k 0) = false := by
      unfold endP
      rw [List.length_replicate, decide_eq_false (by omega)]
      rfl
    rw [he, if_neg (by simp), readP_zero]
  | e :: l, f + 1, at_, acc, k, h, hk => by
    have he := h e (by simp)
    have hl := blkE_len he
    have ht := tarB_cons e l
    rw [ht] at hk ⊢
    rw [List.length_append, hl] at hk
    by_cases hc : k < bsz e
    · rw [List.take_append_of_le_length (by omega)]
      have h1 := readP_short he hc
      refine ⟨at_, ?_, by omega⟩
      unfold parseF
      rw [h1.2, if_neg (by simp), h1.1]
    · have hk2 : k = (blkE e).length + (k - bsz e) := by omega
      rw [hk2, List.take_length_add_append]
      have h1 := readP_blk he ((tarB l).take (k - bsz e))
      unfold parseF
      rw [h1.2, if_neg (by simp), h1.1]
      simp only
      split
      · exact ⟨at_, rfl, by omega⟩
      · rw [drop_blk he]
        obtain ⟨m, hm, hle⟩ := parse_cut (l := l) f (at_ + bsz e) (acc ++ [e]) (k - bsz e) (fun x hx => h x (by simp [hx])) (by omega)
        exact ⟨m, hm, by omega⟩
/-- Entries ahead are parsed, whatever comes behind. -/
theorem parse_pre : ∀ {l : List EN} {f at_ : Nat} {acc : List EN} (C : List UInt8), (∀ e ∈ l, rightE e = 0) → acc.length + l.length ≤ 256 → parseF (l.length + f) (flat l ++ C) at_ acc = parseF f C (at_ + szs l) (acc ++ l)
  | [], f, at_, acc, C, _, _ => by simp [flat, szs]
  | e :: l, f, at_, acc, C, h, ha => by
    have he := h e (by simp)
    have ht : flat (e :: l) ++ C = blkE e ++ (flat l ++ C) := by rw [flat_cons, List.append_assoc]
    have h1 := readP_blk he (flat l ++ C)
    rw [List.length_cons] at ha
    rw [ht, List.length_cons, show l.length + 1 + f = (l.length + f) + 1 by omega]
    conv => lhs; unfold parseF
    rw [h1.2, if_neg (by simp), h1.1]
    simp only
    rw [if_neg (by omega), drop_blk he, parse_pre C (fun x hx => h x (by simp [hx])) (by rw [List.length_append]; simp; omega)]
    congr 1
    · show at_ + bsz e + szs l = at_ + (bsz e + szs l)
      omega
    · simp
theorem take_set_lt (W : List UInt8) (j : Nat) (x : UInt8) : (W.set j x).take 512 = (W.take 512).set j x := List.take_set
/-- A byte of a header that is changed. -/
theorem readP_changed {e : EN} (h : rightE e = 0) (C : List UInt8) {j : Nat} {x : UInt8} (hj : j < 512) (ho : j < 148 ∨ 156 ≤ j) (hx : (blkE e ++ C).getD j 0 ≠ x) : readP ((blkE e ++ C).set j x) = none ∧ endP ((blkE e ++ C).set j x) = false := by
  obtain ⟨p, r, s, hd, hp, hs, h8⟩ := blkE_hd h C
  have hl : (blkE e ++ C).length = bsz e + C.length := by rw [List.length_append, blkE_len h]
  have hb : 512 ≤ bsz e := by unfold bsz; omega
  refine ⟨?_, ?_⟩
  · have ht : ((blkE e ++ C).set j x).take 512 = (fld (blkE e ++ C) 0 512).set j x := List.take_set
    have hlf : (fld (blkE e ++ C) 0 512).length = 512 := length_fld _ _ _ (by omega)
    have hsum : sumF (fld (((blkE e ++ C).set j x).take 512) 148 8) = (s, true) := by
      rw [ht, fld_set_out x ho, fld_fld (by omega)]
      have := hd.f148
      rw [this, sumF_oct s h8]
    have hd2 := sumH_out (bs := fld (blkE e ++ C) 0 512) (k := j) x (by omega) ho
    have hg : (fld (blkE e ++ C) 0 512).getD j 0 = (blkE e ++ C).getD j 0 := by
      rw [List.getD_eq_getElem?_getD, List.getD_eq_getElem?_getD, fld_at, if_pos hj, Nat.zero_add]
    rw [hg] at hd2
    have hne : V x ≠ V ((blkE e ++ C).getD j 0) := fun q => hx (V_inj q).symm
    unfold readP
    rw [if_neg (by rw [List.length_set]; omega), hsum, if_pos (.inr (by rw [ht]; show (s : Int) ≠ _; omega))]
  · have hsg := blk_sign h C
    by_cases h7 : j = 257
    · exact not_noughts (i := 258) (x := 115) (by rw [List.getElem?_set_ne (by omega)]; exact hsg.2) rfl
    · exact not_noughts (i := 257) (x := 117) (by rw [List.getElem?_set_ne (by omega)]; exact hsg.1) rfl
/-- A byte of header number k that is changed is told at that header. -/
theorem parse_changed {l : List EN} {k j f : Nat} {x : UInt8} (h : ∀ e ∈ l, rightE e = 0) (hk : k < l.length) (hf : l.length < f) (hl : l.length ≤ 256) (hj : j < 512) (ho : j < 148 ∨ 156 ≤ j) (hx : (tarB l).getD (szs (l.take k) + j) 0 ≠ x) :
    parseF f ((tarB l).set (szs (l.take k) + j) x) 0 [] = (none, szs (l.take k)) := by
  have h1 : ∀ e ∈ l.take k, rightE e = 0 := fun e he => h e (List.mem_of_mem_take he)
  have hfl := flat_len h1
  have ht : tarB l = flat (l.take k) ++ (blkE l[k] ++ tarB (l.drop (k + 1))) := by
    have : l = l.take k ++ l[k] :: l.drop (k + 1) := by rw [← List.drop_eq_getElem_cons hk, List.take_append_drop]
    conv => lhs; rw [this]
    rw [tarB_append, tarB_cons]
  have hlk : (l.take k).length = k := by rw [List.length_take]; omega
  have he := h l[k] (List.getElem_mem hk)
  rw [ht] at hx ⊢
  rw [List.getD_eq_getElem?_getD, List.getElem?_append_right (by omega), hfl, Nat.add_sub_cancel_left, ← List.getD_eq_getElem?_getD] at hx
  rw [List.set_append_right _ _ (by omega), hfl, Nat.add_sub_cancel_left]
  obtain ⟨f', rfl⟩ : ∃ f', f = (l.take k).length + (f' + 1) := ⟨f - k - 1, by omega⟩
  rw [parse_pre _ h1 (by simp; omega)]
  have h2 := readP_changed he (tarB (l.drop (k + 1))) hj ho hx
  unfold parseF
  rw [h2.2, if_neg (by simp), h2.1]
  simp
end Go.Proofs.Ytdfnhgkabaikaaa
