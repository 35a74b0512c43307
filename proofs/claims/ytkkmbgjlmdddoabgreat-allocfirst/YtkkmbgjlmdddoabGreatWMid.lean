/- A log in the midst of deeds. -/
import Derived.Test.YtkkmbgjlmdddoabGreatWPages
import Derived.Test.YtkkmbgjlmdddoabGreatWRef
import Derived.Test.YtkkmbgjlmdddoabGreatWMade
namespace Go.Proofs.YtkkmbgjlmdddoabGreat
open Go.RowKit
/-- A log in the midst of deeds: all that it writes is new, and nothing waits. -/
structure Mid (w0 w : World) (p : Nat) (d : DL) (S : DiskS) (size n k : Nat) (F : Nat → Prop) : Prop where
  log : LogIn w p d S size 0 F
  lt : ∀ i, F i → i < w.heap.size
  new : ∀ i, F i → w0.heap.size ≤ i
  len : S.safe.length = n
  waits : S.waits = fun _ => []
  ops : S.ops.length ≤ k * 206
  made : Made S
  fits : size + 1 ≤ n
  head : headOk S
  below : Below w0.heap.size w0 w
theorem Mid.next {w0 w w' : World} {p : Nat} {d : DL} {S : DiskS} {size n k : Nat} {F : Nat → Prop} (h : Mid w0 w p d S size n k F) (hb : Below w.heap.size w w') : Mid w0 w' p d S size n k F :=
  ⟨h.log.below hb, fun i hi => Nat.lt_of_lt_of_le (h.lt i hi) hb.size, h.new, h.len, h.waits, h.ops, h.made, h.fits, h.head, h.below.trans (hb.mono h.below.size)⟩
theorem Mid.com {w0 w w' : World} {p : Nat} {d d' : DL} {S : DiskS} {size n k : Nat} {F : Nat → Prop} (h : Mid w0 w p d S size n k F) (hn : 0 < n) (ps : List PageS) (bl : Nat → List UInt8) (hbl : ∀ j, (bl j).length = 512) (hl : LogIn w' p d' (comS S size ps bl) size 0 (fun i => F i ∨ (w.heap.size ≤ i ∧ i < w'.heap.size))) (hk : Keeps F w w') :
    Mid w0 w' p d' (comS S size ps bl) size n (k + 1) (fun i => F i ∨ (w.heap.size ≤ i ∧ i < w'.heap.size)) :=
  ⟨hl, fun i hi => hi.elim (fun h1 => Nat.lt_of_lt_of_le (h.lt i h1) hk.size) (fun h => h.2), fun i hi => hi.elim (h.new i) (fun h1 => Nat.le_trans h.below.size h1.1), by rw [comS_len]; exact h.len, comS_waits _ _ _ _ h.waits, by have := comS_ops_le S size ps bl; have := h.ops; omega, h.made.com size ps bl hbl (by rw [h.len]; exact h.fits), h.fits, headOk_com _ _ _ _ h.head (by rw [h.len]; exact hn), h.below.trans (hk.below h.below.size h.new)⟩
theorem headOk_fresh (n : Nat) (h : 0 < n) : headOk (freshN n) := .inl (by rw [seenAt, freshN_seen n 0 h]; exact blank_zeros)
theorem Mid.start {w0 w : World} {p : Nat} {d : DL} {size n : Nat} (hn : size + 1 ≤ n) (hn2 : n ≤ 4096) (h : LogIn w p d (freshN n) size 0 (fun i => w0.heap.size ≤ i ∧ i < p)) (hb : Below w0.heap.size w0 w) : Mid w0 w p d (freshN n) size n 0 (fun i => w0.heap.size ≤ i ∧ i < p) :=
  ⟨h, fun _ hi => Nat.lt_trans hi.2 (lt_of_heap h.heap), fun _ hi => hi.1, freshN_len n, rfl, Nat.zero_le _, made_fresh _ (by simpa using hn2) (fun s hs => by rw [List.eq_of_mem_replicate hs]; exact blank_size), hn, headOk_fresh n (by omega), hb⟩
end Go.Proofs.YtkkmbgjlmdddoabGreat
