/- A cache in memory. -/
import Derived.Test.YtjgclmlclkfgpaaGreatBGrp
import Derived.Test.YtjgclmlclkfgpaaGreatCommitA
import Derived.Test.YtjgclmlclkfgpaaGreatWMade
namespace Go.Proofs.YtjgclmlclkfgpaaGreat
open Go.RowKit
/-- A cache: its disk, the pages that were written, the pages that were used. -/
structure CS where
  S : DiskS
  size : Nat
  N : Nat
  dirty : Int → Option (List UInt8)
  most : Nat
  uses : Nat
  used : Int → Option Nat
/-- Where a cache lies. -/
structure CLay where
  p : Nat
  dm : Nat
  um : Nat
  d : DL
  Dd : DataW Value
  Du : DataW Value
  dv : Int → Option Value
  F : Nat → Prop
def usedV (f : Int → Option Nat) : Int → Option Value := fun n => (f n).map (fun u => .int .i64 (u : Int))
/-- The blocks that a cache writes. -/
def CLay.foot (L : CLay) (c : Nat) (i : Nat) : Prop := L.F i ∨ i = c ∨ i = L.dm ∨ i = L.um
structure CacheAt (w : World) (c : Nat) (L : CLay) (C : CS) : Prop where
  heap : w.heap[c]? = some (.cells #[.pointer (some ⟨L.p, 0, none⟩), .map (some L.dm), .int .i64 C.most, .int .i64 C.uses, .map (some L.um)] 85 (0, 0))
  log : LogIn w L.p L.d C.S C.size 0 L.F
  lt : ∀ i, L.F i → i < w.heap.size
  dirty : GrpIn w L.dm 4096 L.Dd C.N L.dv
  bytes : ∀ n v, L.dv n = some v → ∃ g cap bs, C.dirty n = some bs ∧ v = .slice (some ⟨g, 0, none⟩) 512 cap ∧ bytesAt w ⟨g, 0, none⟩ bs ∧ bs.length = 512 ∧ ¬ L.F g
  clean : ∀ n, L.dv n = none → C.dirty n = none
  used : GrpIn w L.um 4096 L.Du C.N (usedV C.used)
  offc : ¬ L.F c
  offd : ¬ L.F L.dm
  offu : ¬ L.F L.um
  ne : L.dm ≠ L.um
  pages : C.N = pagesS C.S C.size
  fits : C.size + 1 ≤ C.S.safe.length
  few : C.uses ≤ 1000000
  ub : ∀ n u, C.used n = some u → u ≤ C.uses
section
variable {w w' : World} {c : Nat} {L : CLay} {C : CS}
theorem CacheAt.four (h : CacheAt w c L C) : C.S.safe.length ≤ 4096 := h.log.disk.rd.plates.most
theorem CacheAt.pagesLe (h : CacheAt w c L C) : C.N ≤ 4096 := by have := h.four; rw [h.pages]; unfold pagesS; omega
theorem CacheAt.dmap (h : CacheAt w c L C) : ∃ es k, w.heap[L.dm]? = some (.map es k) := map_block h.dirty.mapOwn
theorem CacheAt.umap (h : CacheAt w c L C) : ∃ es k, w.heap[L.um]? = some (.map es k) := map_block h.used.mapOwn
theorem CacheAt.cd (h : CacheAt w c L C) : c ≠ L.dm := fun e => by
  obtain ⟨es, k, hm⟩ := h.dmap
  have := h.heap
  rw [e, hm] at this
  cases this
theorem CacheAt.cu (h : CacheAt w c L C) : c ≠ L.um := fun e => by
  obtain ⟨es, k, hm⟩ := h.umap
  have := h.heap
  rw [e, hm] at this
  cases this
theorem CacheAt.below (h : CacheAt w c L C) (k : Below w.heap.size w w') : CacheAt w' c L C :=
  ⟨below_block k h.heap (lt_of_heap h.heap), h.log.below k, fun i hi => Nat.lt_of_lt_of_le (h.lt i hi) k.size, h.dirty.below k, fun n v hv => by
    obtain ⟨g, cap, bs, h1, h2, h3, h4, h5⟩ := h.bytes n v hv
    exact ⟨g, cap, bs, h1, h2, fun j hj => (k.cell (World.block_lt_of_cell? w _ (h3 j hj))).trans (h3 j hj), h4, h5⟩, h.clean, h.used.below k, h.offc, h.offd, h.offu, h.ne, h.pages, h.fits, h.few, h.ub⟩
/-- The cells of a cache. -/
theorem CacheAt.cells (h : CacheAt w c L C) : w.cell? ⟨c, 0, none⟩ = some (.pointer (some ⟨L.p, 0, none⟩)) ∧ w.cell? ⟨c, 1, none⟩ = some (.map (some L.dm)) ∧ w.cell? ⟨c, 2, none⟩ = some (.int .i64 C.most) ∧ w.cell? ⟨c, 3, none⟩ = some (.int .i64 C.uses) ∧ w.cell? ⟨c, 4, none⟩ = some (.map (some L.um)) :=
  ⟨cell_of_block h.heap 0, cell_of_block h.heap 1, cell_of_block h.heap 2, cell_of_block h.heap 3, cell_of_block h.heap 4⟩
/-- How many pages were written. -/
def CS.dirtyKeys (C : CS) : List Int := ((List.range C.N).map (fun k : Nat => (k : Int))).filter (fun k => (C.dirty k).isSome)
theorem CacheAt.some_iff (h : CacheAt w c L C) (n : Int) : (L.dv n).isSome = (C.dirty n).isSome := by
  cases hv : L.dv n with
  | none => rw [h.clean n hv]; rfl
  | some v => obtain ⟨_, _, bs, h1, _⟩ := h.bytes n v hv; rw [h1]; rfl
theorem CacheAt.keys (h : CacheAt w c L C) : grpKeys L.dv C.N = C.dirtyKeys := by
  unfold grpKeys CS.dirtyKeys
  exact List.filter_congr (fun n _ => h.some_iff n)
end
end Go.Proofs.YtjgclmlclkfgpaaGreat
