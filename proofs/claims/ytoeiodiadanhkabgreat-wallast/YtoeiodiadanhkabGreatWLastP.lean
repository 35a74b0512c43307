/- Pages that are rows of one byte: plain facts for WalLast. -/
import Derived.Test.YtoeiodiadanhkabGreatWMid
namespace Go.Proofs.YtoeiodiadanhkabGreat
open Go.RowKit
/-- What WalLast wants behind k pages of a deed. -/
def wantTo (wl : List UInt8) (ns : List Int) (x : UInt8) : Nat → List UInt8
  | 0 => wl
  | k + 1 => (wantTo wl ns x k).set (ns.getD k 0).toNat (x + UInt8.ofNat k)
theorem length_wantTo (wl : List UInt8) (ns : List Int) (x : UInt8) : ∀ k, (wantTo wl ns x k).length = wl.length
  | 0 => rfl
  | k + 1 => by rw [wantTo, List.length_set, length_wantTo wl ns x k]
theorem want_at (wl : List UInt8) (s : Bool) (ns : List Int) (bs : Nat → Nat) (m : Nat) (x : UInt8) (n : Nat) (hn : n < wl.length) (hin : ∀ j, j < m → 0 ≤ ns.getD j 0) : ∀ k, k ≤ m →
    ((grpVal (deedPs s ns bs m) k (n : Int)).isSome = true → grpL (deedPs s ns bs m) (rowX x) k (n : Int) = List.replicate 512 ((wantTo wl ns x k).getD n 0)) ∧ ((grpVal (deedPs s ns bs m) k (n : Int)).isSome = false → (wantTo wl ns x k).getD n 0 = wl.getD n 0)
  | 0, _ => ⟨fun h => Bool.noConfusion (show false = true from h), fun _ => rfl⟩
  | k + 1, hk => by
    have ih := want_at wl s ns bs m x n hn hin k (by omega)
    have hl : k < (deedPs s ns bs m).length := by rw [length_deedPs]; omega
    have hp : (deedPs s ns bs m)[k]? = some ⟨ns.getD k 0, some ⟨bs k, 0, none⟩, plen s k, 512⟩ := by rw [List.getElem?_eq_getElem hl, deedPs_at]
    have hnn := hin k (by omega)
    have hwl : n < (wantTo wl ns x k).length := by rw [length_wantTo]; exact hn
    have hv : grpVal (deedPs s ns bs m) (k + 1) (n : Int) = if (n : Int) = ns.getD k 0 then some (.slice (some ⟨bs k, 0, none⟩) (plen s k) 512) else grpVal (deedPs s ns bs m) k (n : Int) := by rw [grpVal, hp]; rfl
    have hL : grpL (deedPs s ns bs m) (rowX x) (k + 1) (n : Int) = if (some (ns.getD k 0)) = some (n : Int) then rowX x k else grpL (deedPs s ns bs m) (rowX x) k (n : Int) := by rw [grpL, hp]; rfl
    rw [hL, hv, wantTo]
    by_cases e : (n : Int) = ns.getD k 0
    · have e2 : (ns.getD k 0).toNat = n := by omega
      rw [if_pos e, if_pos (by rw [e]), e2, List.getD_eq_getElem?_getD, List.getElem?_set_self hwl]
      exact ⟨fun _ => rfl, fun h => Bool.noConfusion (show true = false from h)⟩
    · have e2 : (ns.getD k 0).toNat ≠ n := by omega
      rw [if_neg e, if_neg (fun h => e (Option.some.inj h).symm)]
      have e3 : ((wantTo wl ns x k).set (ns.getD k 0).toNat (x + UInt8.ofNat k)).getD n 0 = (wantTo wl ns x k).getD n 0 := by
        rw [List.getD_eq_getElem?_getD, List.getElem?_set_ne e2, ← List.getD_eq_getElem?_getD]
      rw [e3]
      exact ih
/-- Every page is a row of the byte that is wanted. -/
def wanted (S : DiskS) (size : Nat) (wl : List UInt8) : Prop := ∀ n, n < wl.length → seenAt S (1 + size + n) = ⟨(List.replicate 512 (wl.getD n 0)).toArray⟩
theorem wanted_com {S : DiskS} {size : Nat} {wl : List UInt8} (h : wanted S size wl) (hl : 1 + size + wl.length = S.safe.length) (s : Bool) (ns : List Int) (bs : Nat → Nat) (m : Nat) (x : UInt8) (he : comErr (pagesS S size) size (deedPs s ns bs m) = 0) : wanted (comS S size (deedPs s ns bs m) (rowX x)) size (wantTo wl ns x m) := by
  intro n hn
  rw [length_wantTo] at hn
  rw [comS_home S size _ _ n (by omega)]
  by_cases hm : m = 0
  · subst hm
    rw [if_neg (fun h => h.1.2 (by rw [length_deedPs]))]
    exact h n hn
  · have hc : comErr (pagesS S size) size (deedPs s ns bs m) = 0 ∧ (deedPs s ns bs m).length ≠ 0 := ⟨he, by rw [length_deedPs]; exact hm⟩
    have hi := inPages_iff.1 (comErr_ok hc).2.1
    have hw := want_at wl s ns bs m x n hn (fun j hj => by
      have := hi j (by rw [length_deedPs]; exact hj)
      rw [deedPs_at] at this
      exact this.1) m (Nat.le_refl _)
    rw [length_deedPs]
    rw [length_deedPs] at hc
    by_cases hs : (grpVal (deedPs s ns bs m) m (n : Int)).isSome
    · rw [if_pos ⟨hc, hs⟩, hw.1 hs]
    · rw [if_neg (fun h => hs h.2), h n hn, hw.2 (by simpa using hs)]
theorem wanted_fresh (n size : Nat) (k : Nat) (h : 1 + size + k = n) : wanted (freshN n) size (List.replicate k 0) := by
  intro i hi
  rw [List.length_replicate] at hi
  show seenS _ _ _ = _
  rw [freshN_seen n (1 + size + i) (by omega)]
  have e : (List.replicate k (0 : UInt8)).getD i 0 = 0 := by rw [List.getD_eq_getElem?_getD, List.getElem?_replicate, if_pos hi]; rfl
  rw [e]
  have := blank_zeros
  cases hb : blankS with
  | mk d =>
    rw [hb] at this
    cases d with
    | mk l => exact congrArg (fun q : List UInt8 => (⟨q.toArray⟩ : ByteArray)) this
end Go.Proofs.YtoeiodiadanhkabGreat
