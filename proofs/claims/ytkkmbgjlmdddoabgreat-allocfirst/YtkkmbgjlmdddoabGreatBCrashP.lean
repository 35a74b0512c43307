/- A cache in the midst of deeds: what it writes is new, nothing waits, and its head is right. -/
import Derived.Test.YtkkmbgjlmdddoabGreatBAbortP
import Derived.Test.YtkkmbgjlmdddoabGreatWCrashQ
import Derived.Test.YtkkmbgjlmdddoabGreatWMid
namespace Go.Proofs.YtkkmbgjlmdddoabGreat
open Go.RowKit
section
variable {w : World} {c : Nat} {L : CLay} {C : CS}
theorem CacheAt.footLt (h : CacheAt w c L C) (i : Nat) (hi : L.foot c i) : i < w.heap.size := by
  obtain ⟨es, k, hm⟩ := h.dmap
  obtain ⟨es', k', hm'⟩ := h.umap
  rcases hi with hi | hi | hi | hi
  · exact h.lt i hi
  · rw [hi]; exact lt_of_heap h.heap
  · rw [hi]; exact lt_of_heap hm
  · rw [hi]; exact lt_of_heap hm'
theorem CacheAt.comOps (h : CacheAt w c L C) (hr : C.dirtyKeys.length ≤ min C.size 100) : C.com.ops.length ≤ C.S.ops.length + (2 * C.size + 6) ∧ C.S.ops.length ≤ C.com.ops.length := by
  have := comS_ops C.S C.size (L.ps C.dirtyKeys) (fun j => (C.dirty (C.dirtyKeys.getD j 0)).getD [])
  rw [(h.com hr).2] at this
  have hpl : (L.ps C.dirtyKeys).length = C.dirtyKeys.length := by simp [CLay.ps]
  rw [hpl] at this
  split at this <;> omega
theorem CacheAt.comWaits (h : CacheAt w c L C) (hr : C.dirtyKeys.length ≤ min C.size 100) (hw : C.S.waits = fun _ => []) : C.com.waits = fun _ => [] := by
  rw [← (h.com hr).2]; exact comS_waits _ _ _ _ hw
theorem CacheAt.comHead (h : CacheAt w c L C) (hr : C.dirtyKeys.length ≤ min C.size 100) (hh : headOk C.S) : headOk C.com := by
  rw [← (h.com hr).2]; exact headOk_com _ _ _ _ hh (by have := h.fits; omega)
end
/-- A cache over a log of so many sectors, with so many pages, behind at most so many ops. -/
def CrAt (w0 w : World) (c size N o : Nat) : Prop := Below w0.heap.size w0 w ∧ ∃ L C, CacheAt w c L C ∧ C.size = size ∧ C.N = N ∧ Made C.S ∧ C.S.waits = (fun _ => []) ∧ headOk C.S ∧ C.S.ops.length ≤ o ∧ C.dirtyKeys.length ≤ min size 100 ∧ (∀ i, L.foot c i → w0.heap.size ≤ i)
section
variable {w0 w w' : World} {c size N o : Nat}
theorem CrAt.below (h : CrAt w0 w c size N o) (hb : Below w.heap.size w w') : CrAt w0 w' c size N o := by
  obtain ⟨h2, L, C, h3, h4⟩ := h
  exact ⟨h2.trans (hb.mono h2.size), L, C, h3.below hb, h4⟩
theorem CrAt.more {o' : Nat} (h : CrAt w0 w c size N o) (ho : o ≤ o') : CrAt w0 w c size N o' := by
  obtain ⟨h2, L, C, h3, h4, h5, h6, h7, h8, h9, h10⟩ := h
  exact ⟨h2, L, C, h3, h4, h5, h6, h7, h8, Nat.le_trans h9 ho, h10⟩
theorem CrAt.write (h : CrAt w0 w c size N o) (n : Int) (s : Bool) (l : List UInt8) (ad : Addr) (cp : Nat) (hl : l.length = dlen s) (hb : bytesAt w ad l) :
    Calls Tryz.prog 54 #[.pointer (some ⟨c, 0, none⟩), .int .i64 n, .slice (some ad) (dlen s) cp] w fun e w' => ∃ v, e = .returned v ∧ CrAt w0 w' c size N o := by
  have h' := h
  obtain ⟨h2, L, C, h3, h4, h5, h6, h7, h8, h9, h10, h11⟩ := h
  by_cases hin : 0 ≤ n ∧ n < (C.N : Int)
  · obtain ⟨hi0, hi1⟩ := hin
    obtain ⟨n, rfl⟩ : ∃ m : Nat, n = (m : Int) := ⟨n.toNat, by omega⟩
    have hn : n < C.N := by omega
    cases s with
    | true =>
      refine (bwrite_form n (some ad) 511 cp w h3 hn (by omega)).mono ?_
      rintro e w' ⟨rfl, hb⟩
      exact ⟨_, rfl, h'.below hb⟩
    | false =>
      by_cases hr : (C.dirty n).isSome ∨ C.dirtyKeys.length < min C.size 100
      · refine (bwrite_ok n l ad cp w h3 hn hl hb hr).mono ?_
        rintro e w' ⟨rfl, g, cap, Dd, Du, hg, hC, hK⟩
        have hf : ∀ i, (i = L.dm ∨ i = L.um) → w0.heap.size ≤ i := fun i hi => h11 i (hi.elim (fun e => .inr (.inr (.inl e))) (fun e => .inr (.inr (.inr e))))
        refine ⟨_, rfl, h2.trans (hK.below h2.size hf), _, _, hC, h4, h5, h6, h7, h8, h9, keys_upd C n l _ _ h10 ?_, h11⟩
        rw [h4] at hr
        exact hr
      · have hd : C.dirty n = none := by
          cases hd : C.dirty n with
          | none => rfl
          | some b => exact absurd (.inl (by rw [hd]; rfl)) hr
        have hk : ¬ C.dirtyKeys.length < min C.size 100 := fun h => hr (.inr h)
        refine (bwrite_full n (some ad) cp w h3 hn hd (by rw [h4] at hk ⊢; omega)).mono ?_
        rintro e w' ⟨rfl, hb⟩
        exact ⟨_, rfl, h'.below hb⟩
  · refine (bwrite_range n _ w h3 hin).mono ?_
    rintro e w' ⟨rfl, hb⟩
    exact ⟨_, rfl, h'.below hb⟩
theorem CrAt.commit (h : CrAt w0 w c size N o) (ho : o ≤ 700000) :
    Calls Tryz.prog 21 #[.pointer (some ⟨c, 0, none⟩)] w fun e w' => e = .returned (.int .i64 0) ∧ CrAt w0 w' c size N (o + (2 * size + 6)) := by
  obtain ⟨h2, L, C, h3, h4, h5, h6, h7, h8, h9, h10, h11⟩ := h
  have hr : C.dirtyKeys.length ≤ min C.size 100 := by rw [h4]; exact h10
  have hco := (h3.comOps hr).1
  rw [h4] at hco
  refine (bcommit_any w h3 hr (by omega)).mono ?_
  rintro e w' ⟨rfl, d', F', hF1, hF2, hC, hK⟩
  have hk2 : Below w0.heap.size w0 w' := h2.trans (hK.below h2.size (fun i hi => h11 i (hi.elim .inl (fun e => .inr (.inr (.inl e))))))
  refine ⟨rfl, hk2, _, _, hC, h4, h5, h3.comMade h6 hr, h3.comWaits hr h7, h3.comHead hr h8, Nat.le_trans hco (by omega), by rw [CS.dirtyKeys_none rfl]; simp, fun i hi => ?_⟩
  rcases hi with hi | hi | hi | hi
  · rcases hF2 i hi with h | h
    · exact h11 i (.inl h)
    · exact Nat.le_trans h2.size h
  · exact h11 i (.inr (.inl hi))
  · exact h11 i (.inr (.inr (.inl hi)))
  · exact h11 i (.inr (.inr (.inr hi)))
end
end Go.Proofs.YtkkmbgjlmdddoabGreat
