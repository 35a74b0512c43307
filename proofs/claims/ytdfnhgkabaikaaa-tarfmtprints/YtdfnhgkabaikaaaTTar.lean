/- A tar is its entries' bytes one behind the other, and 1024 noughts; it is parsed as it was. -/
import Derived.Test.YtdfnhgkabaikaaaTRound
namespace Go.Proofs.Ytdfnhgkabaikaaa
theorem wrt_shift (A B s : List UInt8) (a : Nat) : wrt (A ++ B) (A.length + a) s = A ++ wrt B a s := by
  unfold wrt
  rw [Nat.add_assoc, List.take_length_add_append, List.drop_length_add_append]
  simp only [List.append_assoc]
theorem wrt_left {B C s : List UInt8} {a : Nat} (h : a + s.length ≤ B.length) : wrt (B ++ C) a s = wrt B a s ++ C := by
  unfold wrt
  rw [List.take_append_of_le_length (by omega), List.drop_append_of_le_length h]
  simp only [List.append_assoc]
def sh (n : Nat) (ws : List (Nat × List UInt8)) : List (Nat × List UInt8) := ws.map fun x => (n + x.1, x.2)
theorem ap_shift (A B : List UInt8) : ∀ ws, ap (A ++ B) (sh A.length ws) = A ++ ap B ws
  | [] => rfl
  | (a, s) :: ws => by
    show wrt (ap (A ++ B) (sh A.length ws)) (A.length + a) s = _
    rw [ap_shift A B ws, wrt_shift]
    rfl
theorem ap_left {B C : List UInt8} : ∀ ws, fits B.length ws → ap (B ++ C) ws = ap B ws ++ C
  | [], _ => rfl
  | (a, s) :: ws, h => by
    show wrt (ap (B ++ C) ws) a s = wrt (ap B ws) a s ++ C
    rw [ap_left ws h.2, wrt_left]
    rw [length_ap rfl ws h.2]
    exact h.1
theorem ws1_shift (n : Nat) (kd : Int) (md : Nat) (lk : List UInt8) (m : Nat) (p r : List UInt8) : ws1 n kd md lk m p r = sh n (ws1 0 kd md lk m p r) := by
  simp [ws1, sh]
theorem fld_shift (A B : List UInt8) (a n : Nat) : fld (A ++ B) (A.length + a) n = fld B a n := by
  unfold fld
  rw [List.drop_length_add_append]
theorem fld_left {B C : List UInt8} {a n : Nat} (h : a + n ≤ B.length) : fld (B ++ C) a n = fld B a n := by
  unfold fld
  rw [List.drop_append_of_le_length (by omega), List.take_append_of_le_length (by rw [List.length_drop]; omega)]
theorem writeL_shift (A B : List UInt8) (kd : Int) (md : Nat) (lk da p r : List UInt8) : writeL (A ++ B) A.length kd md lk da p r = A ++ writeL B 0 kd md lk da p r := by
  rw [writeL_ap, writeL_ap, fillL_ap, fillL_ap, ws1_shift, ap_shift]
  have : fld (A ++ ap B (ws1 0 kd md lk da.length p r)) A.length 512 = fld (ap B (ws1 0 kd md lk da.length p r)) 0 512 := fld_shift A _ 0 512
  rw [this]
  exact (ap_shift A B ((512, da) :: (148, oct (sumH (fld (ap B (ws1 0 kd md lk da.length p r)) 0 512)).toNat 7 ++ [0]) :: ws1 0 kd md lk da.length p r)).trans (by simp)
theorem writeL_left {B C lk da p r : List UInt8} {kd : Int} {md : Nat} (hB : 512 + da.length ≤ B.length) (hr : r.length ≤ 100) (hp : p.length ≤ 155) (hk : lk.length ≤ 100) : writeL (B ++ C) 0 kd md lk da p r = writeL B 0 kd md lk da p r ++ C := by
  have hf : fits B.length (ws1 0 kd md lk da.length p r) := fits1 (by omega) hr hp hk
  rw [writeL_ap, writeL_ap, fillL_ap, fillL_ap, ap_left _ hf, fld_left (by rw [length_ap rfl _ hf]; omega)]
  exact ap_left _ ⟨by omega, by rw [octN]; omega, hf⟩
/-- An entry's bytes. -/
def blkE (e : EN) : List UInt8 := match partP e.name with
  | none => []
  | some (p, r) => writeL (List.replicate (512 + filledN e.data.length) 0) 0 e.kind e.mode.toNat e.link e.data p r
def bsz (e : EN) : Nat := 512 + filledN e.data.length
theorem blkE_len {e : EN} (h : rightE e = 0) : (blkE e).length = bsz e := by
  have h1 := right_all h
  obtain ⟨⟨p, r⟩, hp⟩ := Option.isSome_iff_exists.1 h1.2.2.2.2.2.1
  have h2 := partP_len hp
  have hF : e.data.length ≤ filledN e.data.length := by unfold filledN; omega
  unfold blkE bsz
  simp only [hp]
  rw [length_writeL (by rw [List.length_replicate]; omega) h2.2 h2.1 (linkOk_len h1.2.2.2.2.2.2.1), List.length_replicate]
/-- What stands in an entry's bytes. -/
theorem blkE_hd {e : EN} (h : rightE e = 0) (C : List UInt8) : ∃ p r s, HdF (blkE e ++ C) 0 e p r s ∧ partP e.name = some (p, r) ∧ (s : Int) = sumH (fld (blkE e ++ C) 0 512) ∧ s < 8 ^ 7 := by
  have h1 := right_all h
  obtain ⟨⟨p, r⟩, hp⟩ := Option.isSome_iff_exists.1 h1.2.2.2.2.2.1
  have h2 := partP_len hp
  have hk := linkOk_len h1.2.2.2.2.2.2.1
  have hF : e.data.length ≤ filledN e.data.length := by unfold filledN; omega
  have hB : (List.replicate (512 + filledN e.data.length) (0 : UInt8)).length = 512 + filledN e.data.length := List.length_replicate
  have hE : blkE e ++ C = writeL (List.replicate (512 + filledN e.data.length) 0 ++ C) 0 e.kind e.mode.toNat e.link e.data p r := by
    rw [writeL_left (by omega) h2.2 h2.1 hk]
    unfold blkE
    simp only [hp]
  have hf : fits (512 + filledN e.data.length + C.length) (ws1 0 e.kind e.mode.toNat e.link e.data.length p r) := fits1 (by omega) h2.2 h2.1 hk
  have hL : (List.replicate (512 + filledN e.data.length) (0 : UInt8) ++ C).length = 512 + filledN e.data.length + C.length := by rw [List.length_append, hB]
  have hlf : (ap (List.replicate (512 + filledN e.data.length) (0 : UInt8) ++ C) (ws1 0 e.kind e.mode.toNat e.link e.data.length p r)).length = 512 + filledN e.data.length + C.length := length_ap hL _ hf
  have hb := sumH_bounds (h := fld (ap (List.replicate (512 + filledN e.data.length) (0 : UInt8) ++ C) (ws1 0 e.kind e.mode.toNat e.link e.data.length p r)) 0 512) (length_fld _ _ _ (by omega))
  refine ⟨p, r, (sumH (fld (ap (List.replicate (512 + filledN e.data.length) (0 : UInt8) ++ C) (ws1 0 e.kind e.mode.toNat e.link e.data.length p r)) 0 512)).toNat, ?_, hp, ?_, by omega⟩
  · rw [hE, writeL_ap, fillL_ap]
    refine hdf_of hL (by omega) (fun a n ha => ?_) h2.2 h2.1 hk
    rw [Nat.zero_add, fld_left (by omega), fld_zero _ _ _ (by omega)]
  · rw [hE, writeL_ap, fillL_ap, Int.toNat_of_nonneg hb.1]
    generalize hG : ap (List.replicate (512 + filledN e.data.length) (0 : UInt8) ++ C) (ws1 0 e.kind e.mode.toNat e.link e.data.length p r) = G at *
    simp only [ap, hG, Nat.zero_add]
    have hw : (wrt G 148 (oct (sumH (fld G 0 512)).toNat 7 ++ [0])).length = G.length := length_wrt (by rw [octN]; omega)
    rw [fld_wrt_ne (by omega) (.inr (by omega)), fld_wrt_in (by rw [octN]; omega) (by omega) (by rw [octN]; omega) (by omega), Nat.sub_zero, sumH_wrt (length_fld _ _ _ (by omega)) (octN _ _)]
/-- Entries' bytes, one behind the other. -/
def flat (l : List EN) : List UInt8 := l.flatMap blkE
def tarB (l : List EN) : List UInt8 := flat l ++ List.replicate 1024 0
theorem flat_cons (e : EN) (l : List EN) : flat (e :: l) = blkE e ++ flat l := List.flatMap_cons
theorem flat_one (e : EN) : flat [e] = blkE e := by unfold flat; rw [List.flatMap_cons, List.flatMap_nil, List.append_nil]
theorem flat_append (a b : List EN) : flat (a ++ b) = flat a ++ flat b := List.flatMap_append
theorem tarB_cons (e : EN) (l : List EN) : tarB (e :: l) = blkE e ++ tarB l := by unfold tarB; rw [flat_cons, List.append_assoc]
theorem tarB_append (a b : List EN) : tarB (a ++ b) = flat a ++ tarB b := by unfold tarB; rw [flat_append, List.append_assoc]
def szs (l : List EN) : Nat := (l.map bsz).sum
theorem flat_len : ∀ {l : List EN}, (∀ e ∈ l, rightE e = 0) → (flat l).length = szs l
  | [], _ => rfl
  | e :: l, h => by
    show (blkE e ++ flat l).length = bsz e + szs l
    rw [List.length_append, blkE_len (h e (by simp)), flat_len (fun x hx => h x (by simp [hx]))]
theorem sizeTo_szs (l : List (EN × Value)) (k : Nat) : sizeTo l k = 1024 + szs ((l.take k).map Prod.fst) := by
  unfold sizeTo szs
  rw [List.map_map]
  rfl
/-- What Print lays. -/
theorem tarL_flat {l : List (EN × Value)} (hr : ∀ i (hi : i < l.length), rightE l[i].1 = 0) : ∀ k, k ≤ l.length → tarL l (sizeTo l l.length) k = flat ((l.take k).map Prod.fst) ++ List.replicate (sizeTo l l.length - (sizeTo l k - 1024)) 0
  | 0, _ => by simp [tarL, flat, sizeTo]
  | k + 1, hk => by
    have h1 := right_all (hr k (by omega))
    obtain ⟨⟨p, r⟩, hp⟩ := Option.isSome_iff_exists.1 h1.2.2.2.2.2.1
    have h2 := partP_len hp
    have hkl := linkOk_len h1.2.2.2.2.2.2.1
    have h3 := sizeTo_mono (l := l) (k := k + 1) (m := l.length) (by omega) (Nat.le_refl _)
    have h4 := sizeTo_next (l := l) (k := k) (by omega)
    have h5 : l[k].1.data.length ≤ filledN l[k].1.data.length := by unfold filledN; omega
    have h6 := sizeTo_ge l k
    have hall : ∀ e ∈ (l.take k).map Prod.fst, rightE e = 0 := fun e he => by
      obtain ⟨x, hx, rfl⟩ := List.mem_map.1 he
      obtain ⟨i, hi, rfl⟩ := List.getElem_of_mem (List.mem_of_mem_take hx)
      exact hr i hi
    have hfl := flat_len hall
    have hss := sizeTo_szs l k
    have hoff : sizeTo l k - 1024 = (flat ((l.take k).map Prod.fst)).length := by omega
    rw [tarL_next (by omega) hp, tarL_flat hr k (by omega)]
    have hsp : sizeTo l l.length - (sizeTo l k - 1024) = (512 + filledN l[k].1.data.length) + (sizeTo l l.length - (sizeTo l (k + 1) - 1024)) := by omega
    rw [hsp, ← List.replicate_append_replicate, hoff, writeL_shift, writeL_left (by rw [List.length_replicate]; omega) h2.2 h2.1 hkl, ← List.append_assoc]
    have hlast : flat ((l.take (k + 1)).map Prod.fst) = flat ((l.take k).map Prod.fst) ++ blkE l[k].1 := by
      rw [List.take_succ_eq_append_getElem (by omega), List.map_append, flat_append, List.map_cons, List.map_nil, flat_one]
    have hbe : blkE l[k].1 = writeL (List.replicate (512 + filledN l[k].1.data.length) 0) 0 l[k].1.kind l[k].1.mode.toNat l[k].1.link l[k].1.data p r := by
      unfold blkE
      simp only [hp]
    rw [hlast, hbe]
theorem tarL_all {l : List (EN × Value)} (hr : ∀ i (hi : i < l.length), rightE l[i].1 = 0) : tarL l (sizeTo l l.length) l.length = tarB (l.map Prod.fst) := by
  rw [tarL_flat hr _ (Nat.le_refl _), List.take_length]
  have := sizeTo_ge l l.length
  unfold tarB
  rw [show sizeTo l l.length - (sizeTo l l.length - 1024) = 1024 by omega]
theorem readP_blk {e : EN} (h : rightE e = 0) (C : List UInt8) : readP (blkE e ++ C) = some (e, bsz e) ∧ endP (blkE e ++ C) = false := by
  obtain ⟨p, r, s, hd, hp, hs, h8⟩ := blkE_hd h C
  have h1 := readP_of hd (by rw [List.length_append, blkE_len h]; unfold bsz; omega) h hp hs h8
  have h2 := endP_of hd
  rw [List.drop_zero] at h1 h2
  exact ⟨h1, h2⟩
theorem endP_zero : endP (List.replicate 1024 0) = true := by
  unfold endP
  rw [noughts_rep, List.length_replicate]
  rfl
theorem drop_blk {e : EN} (h : rightE e = 0) (C : List UInt8) : (blkE e ++ C).drop (bsz e) = C := by
  rw [← blkE_len h, List.drop_left]
/-- A tar is parsed as it was. -/
theorem parse_tar : ∀ {l : List EN} {f at_ : Nat} {acc : List EN}, (∀ e ∈ l, rightE e = 0) → l.length < f → acc.length + l.length ≤ 256 → parseF f (tarB l) at_ acc = (some (acc ++ l), 0)
  | [], 0, _, _, _, hf, _ => by simp at hf
  | [], f + 1, at_, acc, _, _, _ => by
    show parseF (f + 1) (List.replicate 1024 0) at_ acc = _
    unfold parseF
    rw [if_pos endP_zero, List.append_nil]
  | e :: l, 0, _, _, _, hf, _ => by simp at hf
  | e :: l, f + 1, at_, acc, h, hf, ha => by
    have he := h e (by simp)
    have h1 := readP_blk he (tarB l)
    have ht := tarB_cons e l
    rw [List.length_cons] at hf ha
    rw [ht]
    unfold parseF
    rw [h1.2, if_neg (by simp), h1.1]
    simp only
    rw [if_neg (by omega), drop_blk he, parse_tar (fun x hx => h x (by simp [hx])) (by omega) (by rw [List.length_append]; simp; omega)]
    simp
theorem szs_ge (l : List EN) : 512 * l.length ≤ szs l := by
  induction l with
  | nil => simp
  | cons e l ih =>
    show 512 * (l.length + 1) ≤ bsz e + szs l
    unfold bsz
    omega
end Go.Proofs.Ytdfnhgkabaikaaa
