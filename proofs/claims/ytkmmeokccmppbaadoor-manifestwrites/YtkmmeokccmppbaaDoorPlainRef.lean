/- Plain facts on the reference's SHA-256: its sixty-four words and its rounds are those of the sixteen words that are turned over. Nothing here is assumed. -/
import Derived.Test.YtkmmeokccmppbaaDoorPad
namespace Go.Proofs.YtkmmeokccmppbaaDoor
/-- The words of a block, as the reference has them. -/
def xw (ws : List UInt32) (t : Nat) : UInt32 :=
  if _h : t < 16 then ws.getD t 0 else xw ws (t - 16) + low (xw ws (t - 15)) + xw ws (t - 7) + high (xw ws (t - 2))
termination_by t
decreasing_by all_goals omega
set_option maxRecDepth 100000 in
theorem xw_lo (ws : List UInt32) (t : Nat) (h : t < 16) : xw ws t = ws.getD t 0 := by rw [xw, dif_pos h]
set_option maxRecDepth 100000 in
theorem xw_hi (ws : List UInt32) (t : Nat) (h : 16 ≤ t) : xw ws t = xw ws (t - 16) + low (xw ws (t - 15)) + xw ws (t - 7) + high (xw ws (t - 2)) := by rw [xw, dif_neg (by omega)]
set_option maxRecDepth 100000 in
theorem window (ws : List UInt32) (hl : ws.length = 16) (v : St) : ∀ t j : Nat, t ≤ j + 16 → (j < t ∨ j < 16) → (roundsS ws v t).1.getD (j % 16) 0 = xw ws j
  | 0, j, _, hj => by
    have h16 : j < 16 := by omega
    rw [roundsS, xw_lo ws j h16, Nat.mod_eq_of_lt h16]
  | t + 1, j, h1, hj => by
    have ih := window ws hl v t
    have hlen := length_rounds ws v t
    rw [roundsS]
    show (stepW (roundsS ws v t).1 t).getD (j % 16) 0 = _
    unfold stepW
    by_cases h16 : t < 16
    · rw [if_pos h16]; exact ih j (by omega) (by omega)
    · rw [if_neg h16]
      by_cases hjt : j = t
      · subst hjt
        have hs : ((roundsS ws v j).1.set (j % 16) ((roundsS ws v j).1.getD (j % 16) 0 + spreadS (roundsS ws v j).1 j)).getD (j % 16) 0 = (roundsS ws v j).1.getD (j % 16) 0 + spreadS (roundsS ws v j).1 j := by
          rw [List.getD_eq_getElem?_getD, List.getElem?_set_self (by omega)]; rfl
        have a0 := ih (j - 16) (by omega) (by omega)
        have a1 := ih (j - 15) (by omega) (by omega)
        have a7 := ih (j - 7) (by omega) (by omega)
        have a2 := ih (j - 2) (by omega) (by omega)
        rw [show (j - 16) % 16 = j % 16 by omega] at a0
        rw [show (j - 15) % 16 = (j + 1) % 16 by omega] at a1
        rw [show (j - 7) % 16 = (j + 9) % 16 by omega] at a7
        rw [show (j - 2) % 16 = (j + 14) % 16 by omega] at a2
        rw [hs, spreadS, a0, a1, a7, a2, xw_hi ws j (by omega), UInt32.add_assoc, UInt32.add_assoc, UInt32.add_assoc]
      · rw [List.getD_eq_getElem?_getD, List.getElem?_set_ne (by omega), ← List.getD_eq_getElem?_getD]
        exact ih j (by omega) (by omega)
/-- The rounds, over the sixty-four words. -/
def rv (ws : List UInt32) (s : St) : Nat → St
  | 0 => s
  | t + 1 => turnS (rv ws s t) (kwords.getD t 0 + xw ws t)
set_option maxRecDepth 100000 in
theorem rv_eq (ws : List UInt32) (hl : ws.length = 16) (s : St) : ∀ t, rv ws s t = (roundsS ws s t).2
  | 0 => rfl
  | t + 1 => by
    have h := window ws hl s (t + 1) t (by omega) (by omega)
    have h' : (stepW (roundsS ws s t).1 t).getD (t % 16) 0 = xw ws t := h
    rw [rv, rv_eq ws hl s t, roundsS, h']
/-- The list of sixty-four words while it is filled: first by bytes, then by words. -/
def byteW (bs : List UInt8) (k : Nat) : List UInt32 := wordsTo bs k ++ List.replicate 48 0
set_option maxRecDepth 100000 in
theorem length_byteW (bs : List UInt8) (k : Nat) : (byteW bs k).length = 64 := by simp [byteW, length_wordsTo]
set_option maxRecDepth 100000 in
theorem byteW_get (bs : List UInt8) (k i : Nat) (h : i < 16) : (byteW bs k).getD i 0 = (wordsTo bs k).getD i 0 := by
  unfold byteW
  rw [List.getD_eq_getElem?_getD, List.getElem?_append_left (by rw [length_wordsTo]; exact h), ← List.getD_eq_getElem?_getD]
set_option maxRecDepth 100000 in
theorem byteW_next (bs : List UInt8) (k i : Nat) (hi : i < 16) (hk : k / 4 = i) : (byteW bs k).set i ((byteW bs k).getD i 0 <<< 8 ||| (bs.getD k 0).toUInt32) = byteW bs (k + 1) := by
  subst hk
  rw [byteW_get bs k _ hi]
  unfold byteW
  rw [List.set_append_left _ _ (by rw [length_wordsTo]; exact hi), wordsTo]
set_option maxRecDepth 100000 in
theorem byteW_zero (bs : List UInt8) : byteW bs 0 = List.replicate 64 0 := by
  unfold byteW wordsTo; decide
def wordW (ws : List UInt32) (t : Nat) : List UInt32 := (List.range t).map (xw ws) ++ List.replicate (64 - t) 0
set_option maxRecDepth 100000 in
theorem length_wordW (ws : List UInt32) (t : Nat) (h : t ≤ 64) : (wordW ws t).length = 64 := by simp [wordW]; omega
set_option maxRecDepth 100000 in
theorem wordW_get (ws : List UInt32) (t i : Nat) (h : i < t) : (wordW ws t).getD i 0 = xw ws i := by
  unfold wordW
  rw [List.getD_eq_getElem?_getD, List.getElem?_append_left (by simpa using h), List.getElem?_map, List.getElem?_range h]; rfl
set_option maxRecDepth 100000 in
theorem wordW_next (ws : List UInt32) (t : Nat) (h : t < 64) : (wordW ws t).set t (xw ws t) = wordW ws (t + 1) := by
  unfold wordW
  rw [List.set_append_right _ _ (by simp)]
  have e : 64 - t = (64 - (t + 1)) + 1 := by omega
  rw [e, List.replicate_succ]
  simp [List.range_succ]
set_option maxRecDepth 100000 in
theorem words_xw (ws : List UInt32) (hl : ws.length = 16) : (List.range 16).map (xw ws) = ws := by
  apply List.ext_getElem (by simp [hl])
  intro i h1 h2
  rw [List.getElem_map, List.getElem_range, xw_lo _ _ (by omega), List.getD_eq_getElem?_getD, List.getElem?_eq_getElem h2]; rfl
set_option maxRecDepth 100000 in
theorem wordW_start (bs : List UInt8) : byteW bs 64 = wordW (wordsTo bs 64) 16 := by
  unfold wordW
  rw [words_xw _ (length_wordsTo bs 64)]; rfl
/-- Zeros behind the text till eight bytes are left. -/
def padZ (bs : List UInt8) (j : Nat) : List UInt8 := bs ++ 128 :: List.replicate j 0
set_option maxRecDepth 100000 in
theorem padZ_next (bs : List UInt8) (j : Nat) : padZ bs j ++ [0] = padZ bs (j + 1) := by
  unfold padZ
  rw [List.append_assoc, List.cons_append, ← List.replicate_succ']
set_option maxRecDepth 100000 in
theorem length_padZ (bs : List UInt8) (j : Nat) : (padZ bs j).length = bs.length + 1 + j := by simp [padZ]; omega
def padB (bs : List UInt8) (i : Nat) : List UInt8 := padZ bs ((119 - bs.length % 64) % 64) ++ (List.range i).map (sizeByte bs.length)
set_option maxRecDepth 100000 in
theorem padB_next (bs : List UInt8) (i : Nat) : padB bs i ++ [sizeByte bs.length i] = padB bs (i + 1) := by
  unfold padB; rw [List.append_assoc, List.range_succ, List.map_append]; rfl
set_option maxRecDepth 100000 in
theorem padB_all (bs : List UInt8) : padB bs 8 = bs ++ padS bs.length := by
  unfold padB padZ padS; simp
set_option maxRecDepth 100000 in
theorem length_padB (bs : List UInt8) (i : Nat) : (padB bs i).length = bs.length + 1 + (119 - bs.length % 64) % 64 + i := by
  unfold padB; rw [List.length_append, length_padZ]; simp
set_option maxRecDepth 100000 in
theorem length_all (bs : List UInt8) : (padB bs 8).length = 64 * ((padB bs 8).length / 64) := by
  have := length_padB bs 8; omega
set_option maxRecDepth 100000 in
theorem sumS_pad (bs : List UInt8) : sumS bs = outS (blocksS (padB bs 8) ((padB bs 8).length / 64)) := by rw [padB_all]; rfl
set_option maxRecDepth 100000 in
theorem block_get (M : List UInt8) (k j : Nat) (h : j < 64) : ((M.drop (64 * k)).take 64).getD j 0 = M.getD (64 * k + j) 0 := by
  rw [List.getD_eq_getElem?_getD, List.getElem?_take_of_lt h, List.getElem?_drop, ← List.getD_eq_getElem?_getD]
set_option maxRecDepth 100000 in
theorem fresh_assoc (v : St) (k x : UInt32) : v.h + (rotl v.e 26 ^^^ rotl v.e 21 ^^^ rotl v.e 7) + (v.e &&& v.f ^^^ ~~~v.e &&& v.g) + k + x = fresh v (k + x) := by
  unfold fresh; rw [← UInt32.add_assoc]
end Go.Proofs.YtkmmeokccmppbaaDoor
