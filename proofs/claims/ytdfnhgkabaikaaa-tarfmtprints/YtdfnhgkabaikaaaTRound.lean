/- What was written is read. -/
import Derived.Test.YtdfnhgkabaikaaaTFlat
namespace Go.Proofs.Ytdfnhgkabaikaaa
/-- Writes, the last one first. -/
def ap (L : List UInt8) : List (Nat × List UInt8) → List UInt8
  | [] => L
  | (a, s) :: ws => wrt (ap L ws) a s
def fits (N : Nat) : List (Nat × List UInt8) → Prop
  | [] => True
  | (a, s) :: ws => a + s.length ≤ N ∧ fits N ws
def offW (x n : Nat) : List (Nat × List UInt8) → Prop
  | [] => True
  | (a, s) :: ws => (a + s.length ≤ x ∨ x + n ≤ a) ∧ offW x n ws
theorem length_ap {L : List UInt8} {N : Nat} (hL : L.length = N) : ∀ ws, fits N ws → (ap L ws).length = N
  | [], _ => hL
  | (_, _) :: ws, h => wrtN (length_ap hL ws h.2) h.1
theorem fld_ap {L : List UInt8} {N x n : Nat} (hL : L.length = N) : ∀ ws, fits N ws → offW x n ws → fld (ap L ws) x n = fld L x n
  | [], _, _ => rfl
  | (a, s) :: ws, hf, ho => by
    rw [ap, fld_wrt_ne (by rw [length_ap hL ws hf.2]; exact hf.1) ho.1, fld_ap hL ws hf.2 ho.2]
theorem fld_skip {L : List UInt8} {N a x n : Nat} {s : List UInt8} {ws : List (Nat × List UInt8)} (hL : L.length = N) (hf : fits N ((a, s) :: ws)) (h : a + s.length ≤ x ∨ x + n ≤ a) : fld (ap L ((a, s) :: ws)) x n = fld (ap L ws) x n :=
  fld_wrt_ne (by rw [length_ap hL ws hf.2]; exact hf.1) h
theorem fld_top {L : List UInt8} {N a n : Nat} {s : List UInt8} {ws : List (Nat × List UInt8)} (hL : L.length = N) (hf : fits N ((a, s) :: ws)) (h : s.length ≤ n) : fld (ap L ((a, s) :: ws)) a n = s ++ fld (ap L ws) (a + s.length) (n - s.length) :=
  fld_wrt_pre (by rw [length_ap hL ws hf.2]; exact hf.1) h
theorem fld_top0 {L : List UInt8} {N a n : Nat} {s : List UInt8} {ws : List (Nat × List UInt8)} (hL : L.length = N) (hf : fits N ((a, s) :: ws)) (h : n = s.length) : fld (ap L ((a, s) :: ws)) a n = s :=
  fld_wrt_eq (by rw [length_ap hL ws hf.2]; exact hf.1) h
abbrev z8 : List UInt8 := oct 0 7 ++ [0]
abbrev z12 : List UInt8 := oct 0 11 ++ [0]
/-- What write writes. -/
def ws1 (o : Nat) (kd : Int) (md : Nat) (lk : List UInt8) (n : Nat) (p r : List UInt8) : List (Nat × List UInt8) :=
  [(o + 156, [typeP kd]), (o + 124, oct n 11 ++ [0]), (o + 100, oct md 7 ++ [0]), (o + 257, signB), (o + 157, lk), (o + 345, p), (o, r), (o + 337, z8), (o + 329, z8), (o + 136, z12), (o + 124, z12), (o + 116, z8), (o + 108, z8), (o + 100, z8)]
theorem fillL_ap (L : List UInt8) (o : Nat) (kd : Int) (md : Nat) (lk : List UInt8) (n : Nat) (p r : List UInt8) : fillL L o kd md lk n p r = ap L (ws1 o kd md lk n p r) := rfl
theorem writeL_ap (L : List UInt8) (o : Nat) (kd : Int) (md : Nat) (lk da p r : List UInt8) :
    writeL L o kd md lk da p r = ap L ((o + 512, da) :: (o + 148, oct (sumH (fld (fillL L o kd md lk da.length p r) o 512)).toNat 7 ++ [0]) :: ws1 o kd md lk da.length p r) := rfl
set_option linter.unusedSimpArgs false in
theorem fits1 {N o md n : Nat} {kd : Int} {lk p r : List UInt8} (ho : o + 512 ≤ N) (hr : r.length ≤ 100) (hp : p.length ≤ 155) (hk : lk.length ≤ 100) : fits N (ws1 o kd md lk n p r) := by
  have hs : signB.length = 8 := rfl
  simp only [ws1, fits, octN, hs, List.length_singleton, and_true]
  omega
theorem fld_drop (L : List UInt8) (o a n : Nat) : fld (L.drop o) a n = fld L (o + a) n := by unfold fld; rw [List.drop_drop]
/-- The fields of what was written on noughts. -/
structure HdF (W : List UInt8) (o : Nat) (e : EN) (p r : List UInt8) (s : Nat) : Prop where
  f0 : fld W o 100 = r ++ List.replicate (100 - r.length) 0
  f100 : fld W (o + 100) 8 = oct e.mode.toNat 7 ++ [0]
  f108 : fld W (o + 108) 8 = z8
  f116 : fld W (o + 116) 8 = z8
  f124 : fld W (o + 124) 12 = oct e.data.length 11 ++ [0]
  f136 : fld W (o + 136) 12 = z12
  f148 : fld W (o + 148) 8 = oct s 7 ++ [0]
  f156 : fld W (o + 156) 1 = [typeP e.kind]
  f157 : fld W (o + 157) 100 = e.link ++ List.replicate (100 - e.link.length) 0
  f257 : fld W (o + 257) 8 = signB
  f265 : fld W (o + 265) 32 = List.replicate 32 0
  f297 : fld W (o + 297) 32 = List.replicate 32 0
  f329 : fld W (o + 329) 8 = z8
  f337 : fld W (o + 337) 8 = z8
  f345 : fld W (o + 345) 155 = p ++ List.replicate (155 - p.length) 0
  f500 : fld W (o + 500) 12 = List.replicate 12 0
  f512 : fld W (o + 512) e.data.length = e.data
  fpad : fld W (o + 512 + e.data.length) (filledN e.data.length - e.data.length) = List.replicate (filledN e.data.length - e.data.length) 0
set_option maxHeartbeats 4000000 in
set_option linter.unusedSimpArgs false in
theorem hdf_of {L p r : List UInt8} {o N s : Nat} {e : EN} (hL : L.length = N) (hN : o + 512 + filledN e.data.length ≤ N) (hz : ∀ a n, a + n ≤ 512 + filledN e.data.length → fld L (o + a) n = List.replicate n 0) (hr : r.length ≤ 100) (hp : p.length ≤ 155) (hk : e.link.length ≤ 100) :
    HdF (ap L ((o + 512, e.data) :: (o + 148, oct s 7 ++ [0]) :: ws1 o e.kind e.mode.toNat e.link e.data.length p r)) o e p r s := by
  have hF : e.data.length ≤ filledN e.data.length := by unfold filledN; omega
  have hs : signB.length = 8 := rfl
  have hf : fits N ((o + 512, e.data) :: (o + 148, oct s 7 ++ [0]) :: ws1 o e.kind e.mode.toNat e.link e.data.length p r) := ⟨by omega, by rw [octN]; omega, fits1 (by omega) hr hp hk⟩
  unfold ws1 at hf ⊢
  have ez : ∀ a n, a + n ≤ 512 + filledN e.data.length → fld L (o + a) n = List.replicate n 0 := hz
  constructor
  · iterate 8 refine (fld_skip hL (by simp only [fits, octN, hs, List.length_singleton, and_true]; omega) (by (try simp only [octN, hs, List.length_singleton]); omega)).trans ?_
    refine (fld_top hL (by simp only [fits, octN, hs, List.length_singleton, and_true]; omega) hr).trans ?_
    congr 1
    iterate 7 refine (fld_skip hL (by simp only [fits, octN, hs, List.length_singleton, and_true]; omega) (by (try simp only [octN, hs, List.length_singleton]); omega)).trans ?_
    skip
    exact ez _ _ (by omega)
  · iterate 4 refine (fld_skip hL (by simp only [fits, octN, hs, List.length_singleton, and_true]; omega) (by (try simp only [octN, hs, List.length_singleton]); omega)).trans ?_
    exact fld_top0 hL (by simp only [fits, octN, hs, List.length_singleton, and_true]; omega) (by first | rfl | rw [octN])
  · iterate 14 refine (fld_skip hL (by simp only [fits, octN, hs, List.length_singleton, and_true]; omega) (by (try simp only [octN, hs, List.length_singleton]); omega)).trans ?_
    exact fld_top0 hL (by simp only [fits, octN, hs, List.length_singleton, and_true]; omega) (by first | rfl | rw [octN])
  · iterate 13 refine (fld_skip hL (by simp only [fits, octN, hs, List.length_singleton, and_true]; omega) (by (try simp only [octN, hs, List.length_singleton]); omega)).trans ?_
    exact fld_top0 hL (by simp only [fits, octN, hs, List.length_singleton, and_true]; omega) (by first | rfl | rw [octN])
  · iterate 3 refine (fld_skip hL (by simp only [fits, octN, hs, List.length_singleton, and_true]; omega) (by (try simp only [octN, hs, List.length_singleton]); omega)).trans ?_
    exact fld_top0 hL (by simp only [fits, octN, hs, List.length_singleton, and_true]; omega) (by first | rfl | rw [octN])
  · iterate 11 refine (fld_skip hL (by simp only [fits, octN, hs, List.length_singleton, and_true]; omega) (by (try simp only [octN, hs, List.length_singleton]); omega)).trans ?_
    exact fld_top0 hL (by simp only [fits, octN, hs, List.length_singleton, and_true]; omega) (by first | rfl | rw [octN])
  · iterate 1 refine (fld_skip hL (by simp only [fits, octN, hs, List.length_singleton, and_true]; omega) (by (try simp only [octN, hs, List.length_singleton]); omega)).trans ?_
    exact fld_top0 hL (by simp only [fits, octN, hs, List.length_singleton, and_true]; omega) (by first | rfl | rw [octN])
  · iterate 2 refine (fld_skip hL (by simp only [fits, octN, hs, List.length_singleton, and_true]; omega) (by (try simp only [octN, hs, List.length_singleton]); omega)).trans ?_
    exact fld_top0 hL (by simp only [fits, octN, hs, List.length_singleton, and_true]; omega) (by first | rfl | rw [octN])
  · iterate 6 refine (fld_skip hL (by simp only [fits, octN, hs, List.length_singleton, and_true]; omega) (by (try simp only [octN, hs, List.length_singleton]); omega)).trans ?_
    refine (fld_top hL (by simp only [fits, octN, hs, List.length_singleton, and_true]; omega) hk).trans ?_
    congr 1
    iterate 9 refine (fld_skip hL (by simp only [fits, octN, hs, List.length_singleton, and_true]; omega) (by (try simp only [octN, hs, List.length_singleton]); omega)).trans ?_
    rw [Nat.add_assoc]
    exact ez _ _ (by omega)
  · iterate 5 refine (fld_skip hL (by simp only [fits, octN, hs, List.length_singleton, and_true]; omega) (by (try simp only [octN, hs, List.length_singleton]); omega)).trans ?_
    exact fld_top0 hL (by simp only [fits, octN, hs, List.length_singleton, and_true]; omega) (by first | rfl | rw [octN])
  · iterate 16 refine (fld_skip hL (by simp only [fits, octN, hs, List.length_singleton, and_true]; omega) (by (try simp only [octN, hs, List.length_singleton]); omega)).trans ?_
    skip
    exact ez _ _ (by omega)
  · iterate 16 refine (fld_skip hL (by simp only [fits, octN, hs, List.length_singleton, and_true]; omega) (by (try simp only [octN, hs, List.length_singleton]); omega)).trans ?_
    skip
    exact ez _ _ (by omega)
  · iterate 10 refine (fld_skip hL (by simp only [fits, octN, hs, List.length_singleton, and_true]; omega) (by (try simp only [octN, hs, List.length_singleton]); omega)).trans ?_
    exact fld_top0 hL (by simp only [fits, octN, hs, List.length_singleton, and_true]; omega) (by first | rfl | rw [octN])
  · iterate 9 refine (fld_skip hL (by simp only [fits, octN, hs, List.length_singleton, and_true]; omega) (by (try simp only [octN, hs, List.length_singleton]); omega)).trans ?_
    exact fld_top0 hL (by simp only [fits, octN, hs, List.length_singleton, and_true]; omega) (by first | rfl | rw [octN])
  · iterate 7 refine (fld_skip hL (by simp only [fits, octN, hs, List.length_singleton, and_true]; omega) (by (try simp only [octN, hs, List.length_singleton]); omega)).trans ?_
    refine (fld_top hL (by simp only [fits, octN, hs, List.length_singleton, and_true]; omega) hp).trans ?_
    congr 1
    iterate 8 refine (fld_skip hL (by simp only [fits, octN, hs, List.length_singleton, and_true]; omega) (by (try simp only [octN, hs, List.length_singleton]); omega)).trans ?_
    rw [Nat.add_assoc]
    exact ez _ _ (by omega)
  · iterate 16 refine (fld_skip hL (by simp only [fits, octN, hs, List.length_singleton, and_true]; omega) (by (try simp only [octN, hs, List.length_singleton]); omega)).trans ?_
    skip
    exact ez _ _ (by omega)
  · skip
    exact fld_top0 hL (by simp only [fits, octN, hs, List.length_singleton, and_true]; omega) (by first | rfl | rw [octN])
  · iterate 16 refine (fld_skip hL (by simp only [fits, octN, hs, List.length_singleton, and_true]; omega) (by (try simp only [octN, hs, List.length_singleton]); omega)).trans ?_
    rw [Nat.add_assoc]
    exact ez _ _ (by omega)
theorem getD_of_fld {W : List UInt8} {i : Nat} {x : UInt8} (h : fld W i 1 = [x]) : W.getD i 0 = x := by
  have h1 := fld_at W i 1 0
  rw [h] at h1
  have h2 : W[i]? = some x := h1.symm
  rw [List.getD_eq_getElem?_getD, h2]
  rfl
/-- What was written on noughts is read as it was. -/
theorem readP_of {W p r : List UInt8} {o s : Nat} {e : EN} (h : HdF W o e p r s) (hl : o + 512 + filledN e.data.length ≤ W.length) (he : rightE e = 0) (hp : partP e.name = some (p, r)) (hs : (s : Int) = sumH (fld W o 512)) (hs8 : s < 8 ^ 7) :
    readP (W.drop o) = some (e, 512 + filledN e.data.length) := by
  obtain ⟨k1, k4, m0, m1, hn, -, hlk, hd, hdl⟩ := right_all he
  have hnz := noZ_part hp (textOk_all hn).2.2
  have hlz : noZ e.link = true := by
    unfold linkOk at hlk
    split at hlk
    · exact (textOk_all hlk).2.2
    · have : e.link = [] := by simpa using hlk
      rw [this]; rfl
  have hF : e.data.length ≤ filledN e.data.length := by unfold filledN; omega
  have hH : (W.drop o).take 512 = fld W o 512 := rfl
  have hf : ∀ {a n : Nat}, a + n ≤ 512 → fld (fld W o 512) a n = fld W (o + a) n := fun h => fld_fld h
  have hsz : sizeP (fld W o 512) = e.data.length := by
    unfold sizeP
    rw [hf (by omega), h.f124, numF_oct _ _ (by omega)]
  have hsum : sumF (fld (fld W o 512) 148 8) = (s, true) := by rw [hf (by omega), h.f148, sumF_oct s hs8]
  have z8t : numF z8 = (0, true) := numF_oct 0 7 (by omega)
  have z12t : numF z12 = (0, true) := numF_oct 0 11 (by omega)
  have t0 : ∀ n, textF (List.replicate n 0) = ([], true) := fun n => textF_pad (r := []) n rfl
  have hm : numF (fld (fld W o 512) 100 8) = (e.mode.toNat, true) := by rw [hf (by omega), h.f100, numF_oct _ _ (by omega)]
  have hform : formedP (fld W o 512) = true := by
    unfold formedP
    rw [hm]
    rw [hf (a := 108) (by omega), hf (a := 116) (by omega), hf (a := 124) (by omega), hf (a := 136) (by omega), hf (a := 329) (by omega), hf (a := 337) (by omega), hf (a := 0) (by omega), hf (a := 157) (by omega), hf (a := 265) (by omega), hf (a := 297) (by omega), hf (a := 345) (by omega), hf (a := 257) (by omega), hf (a := 500) (by omega)]
    rw [h.f108, h.f116, h.f124, h.f136, h.f329, h.f337, show fld W (o + 0) 100 = _ from h.f0, h.f157, h.f265, h.f297, h.f345, h.f257, h.f500, z8t, z12t, numF_oct _ 11 (by omega), textF_pad _ hnz.2, textF_pad _ hlz, t0, textF_pad _ hnz.1, noughts_rep]
    simp
  have hname : nameP (fld W o 512) = e.name := by
    unfold nameP
    rw [hf (a := 345) (by omega), hf (a := 0) (by omega), h.f345, show fld W (o + 0) 100 = _ from h.f0, textF_pad _ hnz.1, textF_pad _ hnz.2]
    exact partP_join hp
  have hdata : ((W.drop o).drop 512).take e.data.length = e.data := by
    rw [List.drop_drop]; exact h.f512
  have hent : entP (fld W o 512) e.data = e := by
    unfold entP
    have hg : (fld W o 512).getD 156 0 = typeP e.kind := getD_of_fld (by rw [hf (by omega)]; exact h.f156)
    rw [hname, hg, kindP_typeP k1 k4, hm, hf (a := 157) (by omega), h.f157, textF_pad _ hlz]
    have : ((e.mode.toNat : Nat) : Int) = e.mode := by omega
    simp only [this]
  have hpad : noughts (((W.drop o).drop 512).drop e.data.length |>.take (filledN e.data.length - e.data.length)) = true := by
    have := h.fpad
    unfold fld at this
    rw [List.drop_drop, List.drop_drop, ← Nat.add_assoc, this, noughts_rep]
  have hlen : (W.drop o).length = W.length - o := List.length_drop
  unfold readP
  rw [if_neg (by omega), hH, hsum, hsz, hdata, hent]
  rw [if_neg (by rintro (h1 | h1); cases h1; exact h1 hs), if_neg (by rw [hform]; simp), if_neg (by rintro (h1 | h1); omega; rw [hpad] at h1; cases h1), if_neg (by rw [he]; simp)]
theorem endP_of {W p r : List UInt8} {o s : Nat} {e : EN} (h : HdF W o e p r s) : endP (W.drop o) = false := by
  have h1 := fld_at W (o + 257) 8 0
  rw [h.f257] at h1
  have h2 : W[o + 257]? = some 117 := h1.symm
  have h3 : (W.drop o)[257]? = some 117 := by rw [List.getElem?_drop]; exact h2
  unfold endP
  have h4 : noughts (W.drop o) = false := by
    cases hq : noughts (W.drop o) with
    | false => rfl
    | true =>
      have := List.all_eq_true.1 hq 117 (List.mem_of_getElem? h3)
      cases this
  rw [h4]
  simp
end Go.Proofs.Ytdfnhgkabaikaaa
