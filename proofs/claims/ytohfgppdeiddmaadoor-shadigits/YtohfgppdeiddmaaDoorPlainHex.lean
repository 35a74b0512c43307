/- Digits: there and back. -/
import Derived.Test.YtohfgppdeiddmaaDoorRUnHex
namespace Go.Proofs.YtohfgppdeiddmaaDoor
theorem UnOf.uniq {s h h' : List UInt8} {c c' : Int} (a : UnOf s h c) (b : UnOf s h' c') : h' = h ∧ c' = c := by
  rcases a with ⟨a1, a2, rfl, rfl⟩ | ⟨a1, rfl, rfl⟩
  · rcases b with ⟨_, _, rfl, rfl⟩ | ⟨b1, _, _⟩
    · exact ⟨rfl, rfl⟩
    · exact absurd ⟨a1, a2⟩ b1
  · rcases b with ⟨b1, b2, _, _⟩ | ⟨_, rfl, rfl⟩
    · exact absurd ⟨b1, b2⟩ a1
    · exact ⟨rfl, rfl⟩
theorem UnOf.length {s h : List UInt8} {c : Int} (a : UnOf s h c) : h.length = 32 := by
  rcases a with ⟨_, _, rfl, _⟩ | ⟨_, rfl, _⟩
  · exact length_unTo _ _ (Nat.le_refl _)
  · simp
theorem hexS_get : ∀ (h : List UInt8) (i : Nat), i < h.length → (hexS h).getD (2 * i) 0 = digitS ((h.getD i 0).toNat / 16) ∧ (hexS h).getD (2 * i + 1) 0 = digitS ((h.getD i 0).toNat % 16)
  | [], i, hi => by simp at hi
  | x :: h, 0, _ => by simp [hexS]
  | x :: h, i + 1, hi => by
    have := hexS_get h i (by simpa using hi)
    have e : hexS (x :: h) = digitS (x.toNat / 16) :: digitS (x.toNat % 16) :: hexS h := by simp [hexS]
    rw [e, show 2 * (i + 1) = (2 * i) + 1 + 1 by omega, show (2 * i) + 1 + 1 + 1 = (2 * i + 1) + 1 + 1 by omega]
    simp only [List.getD_cons_succ]
    exact this
theorem idx_digit : ∀ n < 16, idx (digitS n) = n := by decide +kernel
theorem digit_idx (c : UInt8) (h : 0 ≤ idx c) : digitS (idx c).toNat = c := by
  have : ∀ n < 256, 0 ≤ idx (UInt8.ofNat n) → digitS (idx (UInt8.ofNat n)).toNat = UInt8.ofNat n := by decide +kernel
  have h1 := this c.toNat c.toNat_lt
  rw [UInt8.ofNat_toNat] at h1
  exact h1 h
theorem pair_hex (h : List UInt8) (i : Nat) (hi : i < h.length) : pairByte (hexS h) i = h.getD i 0 := by
  obtain ⟨e1, e2⟩ := hexS_get h i hi
  have hx := (h.getD i 0).toNat_lt
  unfold pairByte
  rw [e1, e2, idx_digit _ (by omega), idx_digit _ (by omega)]
  have e : (16 * (((h.getD i 0).toNat / 16 : Nat) : Int) + (((h.getD i 0).toNat % 16 : Nat) : Int)).toNat = (h.getD i 0).toNat := by omega
  rw [e, UInt8.ofNat_toNat]
theorem un_hex {h h' : List UInt8} {c : Int} (hl : h.length = 32) (a : UnOf (hexS h) h' c) : h' = h ∧ c = 0 := by
  have hg : Good (hexS h) 32 := fun i hi => by
    obtain ⟨e1, e2⟩ := hexS_get h i (by omega)
    have hx := (h.getD i 0).toNat_lt
    rw [e1, e2, idx_digit _ (by omega), idx_digit _ (by omega)]
    omega
  have hu : unTo (hexS h) 32 = h := by
    apply List.ext_getElem?
    intro i
    unfold unTo
    simp only [Nat.sub_self, List.replicate_zero, List.append_nil, List.getElem?_map]
    by_cases hi : i < 32
    · rw [List.getElem?_range hi, Option.map_some, pair_hex h i (by omega), get_some (d := 0) (by omega)]
    · rw [List.getElem?_eq_none (by simp; omega), List.getElem?_eq_none (by omega)]; rfl
  rcases a with ⟨_, _, rfl, rfl⟩ | ⟨b, _, _⟩
  · exact ⟨hu, rfl⟩
  · exact absurd ⟨by rw [length_hexS, hl], hg⟩ b
theorem hex_un {s : List UInt8} (hl : s.length = 64) (hg : Good s 32) : hexS (unTo s 32) = s := by
  have hlu := length_unTo s 32 (Nat.le_refl _)
  have hp : ∀ i < 32, (unTo s 32).getD i 0 = pairByte s i := fun i hi => by
    unfold unTo
    rw [List.getD_eq_getElem?_getD]
    simp only [Nat.sub_self, List.replicate_zero, List.append_nil, List.getElem?_map]
    rw [List.getElem?_range hi]; rfl
  have key : ∀ i < 32, (hexS (unTo s 32)).getD (2 * i) 0 = s.getD (2 * i) 0 ∧ (hexS (unTo s 32)).getD (2 * i + 1) 0 = s.getD (2 * i + 1) 0 := fun i hi => by
    obtain ⟨e1, e2⟩ := hexS_get (unTo s 32) i (by omega)
    obtain ⟨g1, g2⟩ := hg i hi
    have b1 := (idx_in (s.getD (2 * i) 0)).2
    have b2 := (idx_in (s.getD (2 * i + 1) 0)).2
    have hv : (pairByte s i).toNat = (16 * idx (s.getD (2 * i) 0) + idx (s.getD (2 * i + 1) 0)).toNat := by
      unfold pairByte; rw [UInt8.toNat_ofNat']; omega
    rw [e1, e2, hp i hi, hv]
    constructor
    · rw [show (16 * idx (s.getD (2 * i) 0) + idx (s.getD (2 * i + 1) 0)).toNat / 16 = (idx (s.getD (2 * i) 0)).toNat by omega, digit_idx _ g1]
    · rw [show (16 * idx (s.getD (2 * i) 0) + idx (s.getD (2 * i + 1) 0)).toNat % 16 = (idx (s.getD (2 * i + 1) 0)).toNat by omega, digit_idx _ g2]
  apply List.ext_getElem?
  intro j
  have hlh : (hexS (unTo s 32)).length = 64 := by rw [length_hexS, hlu]
  by_cases hj : j < 64
  · rw [get_some (d := 0) (by omega), get_some (d := 0) (by omega)]
    have k := key (j / 2) (by omega)
    by_cases e : j % 2 = 0
    · rw [show 2 * (j / 2) = j by omega] at k; rw [k.1]
    · rw [show 2 * (j / 2) + 1 = j by omega] at k; rw [k.2]
  · rw [List.getElem?_eq_none (by omega), List.getElem?_eq_none (by omega)]
end Go.Proofs.YtohfgppdeiddmaaDoor
