/- A cache in the midst of deeds: plain facts, and how it goes on. -/
import Derived.Test.YtjgclmlclkfgpaaGreatBOpen
import Derived.Test.YtjgclmlclkfgpaaGreatWMid
namespace Go.Proofs.YtjgclmlclkfgpaaGreat
open Go.RowKit
theorem CS.mem_dirtyKeys {C : CS} {k : Int} : k ∈ C.dirtyKeys ↔ (0 ≤ k ∧ k < C.N ∧ (C.dirty k).isSome = true) := by
  simp only [CS.dirtyKeys, List.mem_filter, List.mem_map, List.mem_range]
  constructor
  · rintro ⟨⟨j, hj, rfl⟩, h⟩
    exact ⟨by omega, by omega, h⟩
  · rintro ⟨h0, h1, h2⟩
    exact ⟨⟨k.toNat, by omega, by omega⟩, h2⟩
theorem CS.dirtyKeys_none {C : CS} (h : C.dirty = fun _ => none) : C.dirtyKeys = [] := by
  unfold CS.dirtyKeys
  rw [h]
  simp
/-- The page n, as it is read. -/
def CS.see (C : CS) (n : Nat) : List UInt8 := (C.dirty n).getD (secL C.S (1 + C.size + n))
section
variable {w : World} {c : Nat} {L : CLay} {C : CS}
theorem CacheAt.dom (h : CacheAt w c L C) {n : Int} {bs : List UInt8} (hn : C.dirty n = some bs) : 0 ≤ n ∧ n < (C.N : Int) ∧ bs.length = 512 := by
  cases hv : L.dv n with
  | none => rw [h.clean n hv] at hn; cases hn
  | some v =>
    obtain ⟨g, cap, bs', h1, -, -, h4, -⟩ := h.bytes n v hv
    rw [hn] at h1
    obtain rfl := Option.some.inj h1
    exact ⟨(h.dirty.dom n v hv).1, (h.dirty.dom n v hv).2, h4⟩
theorem CacheAt.comMade (h : CacheAt w c L C) (hM : Made C.S) (hr : C.dirtyKeys.length ≤ min C.size 100) : Made C.com := by
  unfold CS.com
  split
  · exact hM
  · rw [writtenS_doOps]
    have hl := hM.len
    have hf := h.fits
    refine hM.more _ (ok_comOps C.size _ _ _ (by omega) (by omega) (fun k hk => ?_))
    obtain ⟨a, b, d⟩ := CS.mem_dirtyKeys.1 hk
    obtain ⟨bs, hb⟩ := Option.isSome_iff_exists.1 d
    refine ⟨a, ?_, by rw [hb]; exact (h.dom hb).2.2⟩
    have hp := h.pages
    unfold pagesS at hp
    omega
theorem CacheAt.comLen (h : CacheAt w c L C) (hr : C.dirtyKeys.length ≤ min C.size 100) : C.com.safe.length = C.S.safe.length := by rw [← (h.com hr).2]; exact comS_len _ _ _ _
theorem CacheAt.comSee (h : CacheAt w c L C) (hr : C.dirtyKeys.length ≤ min C.size 100) (n : Nat) (hn : n < C.N) : secL C.com (1 + C.size + n) = C.see n := by
  have hp := h.pages
  have hf := h.fits
  unfold pagesS at hp
  have key : seenAt C.com (1 + C.size + n) = match C.dirty (n : Int) with
    | some bs => ⟨bs.toArray⟩
    | none => seenAt C.S (1 + C.size + n) := by
    unfold CS.com
    by_cases h0 : C.dirtyKeys = []
    · rw [if_pos h0]
      cases hd : C.dirty (n : Int) with
      | none => rfl
      | some bs =>
        have : (n : Int) ∈ C.dirtyKeys := CS.mem_dirtyKeys.2 ⟨by omega, by omega, by rw [hd]; rfl⟩
        rw [h0] at this
        cases this
    · rw [if_neg h0, seen_writtenS C.S C.size _ C.dirtyKeys (1 + C.size + n) (by omega) (fun k hk => (CS.mem_dirtyKeys.1 hk).1) (by omega) (.inr (by omega)), if_neg (by omega)]
      have e : (((1 + C.size + n : Nat) : Int) - 1 - (C.size : Int)) = (n : Int) := by omega
      rw [e]
      cases hd : C.dirty (n : Int) with
      | none =>
        rw [if_neg (fun hm => by have := (CS.mem_dirtyKeys.1 hm).2.2; rw [hd] at this; cases this)]
      | some bs => rw [if_pos (CS.mem_dirtyKeys.2 ⟨by omega, by omega, by rw [hd]; rfl⟩)]; rfl
  unfold CS.see
  cases hd : C.dirty (n : Int) with
  | none =>
    rw [hd] at key
    exact congrArg (fun b : ByteArray => b.data.toList) key
  | some bs =>
    rw [hd] at key
    have := congrArg (fun b : ByteArray => b.data.toList) key
    simpa [secL, seenAt] using this
end
end Go.Proofs.YtjgclmlclkfgpaaGreat
