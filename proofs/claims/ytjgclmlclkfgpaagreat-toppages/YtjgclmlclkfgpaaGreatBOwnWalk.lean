/- The walk of BcacheOwn. -/
import Derived.Test.YtjgclmlclkfgpaaGreatBErr
import Derived.Test.YtjgclmlclkfgpaaGreatBLive
import Derived.Test.YtjgclmlclkfgpaaGreatKeepB
namespace Go.Proofs.YtjgclmlclkfgpaaGreat
open Go.RowKit
section
variable {w w' : World} {c : Nat} {L : CLay} {C : CS}
/-- A cache stays when a block of bytes that is not its own is written. -/
theorem CacheAt.keepB (h : CacheAt w c L C) {g : Nat} {l : List UInt8} (hg : ownB w g l) (hF : ¬ L.F g) (hd : ∀ n g' cap, L.dv n = some (.slice (some ⟨g', 0, none⟩) 512 cap) → g' ≠ g) (k : Keeps (fun i => i = g) w w') : CacheAt w' c L C := by
  obtain ⟨es, kk, hm⟩ := h.dmap
  obtain ⟨es', kk', hu⟩ := h.umap
  have hmap : ∀ m e k0, w.heap[m]? = some (.map e k0) → m ≠ g := fun m e k0 hm e1 => by
    subst e1
    rw [show w.heap[m]? = _ from hg] at hm
    cases hm
  exact {
    heap := k.heap h.heap (fun e => by
      have e1 : c = g := e
      have h1 := h.heap
      rw [e1, show w.heap[g]? = _ from hg] at h1
      simp only [Option.some.injEq, Obj.cells.injEq] at h1
      exact absurd h1.2.1 (by decide))
    log := h.log.keepB hg hF k
    lt := fun i hi => Nat.lt_of_lt_of_le (h.lt i hi) k.size
    dirty := h.dirty.keep k (hmap _ _ _ hm)
    bytes := fun n v hv => by
      obtain ⟨g', cap, bs, h1, h2, h3, h4, h5⟩ := h.bytes n v hv
      subst h2
      exact ⟨g', cap, bs, h1, rfl, fun j hj => k.cell (h3 j hj) (by rw [add_block]; exact hd n g' cap hv), h4, h5⟩
    clean := h.clean
    used := h.used.keep k (hmap _ _ _ hu)
    offc := h.offc
    offd := h.offd
    offu := h.offu
    ne := h.ne
    pages := h.pages
    fits := h.fits
    few := h.few
    ub := h.ub }
set_option maxRecDepth 100000 in
set_option maxHeartbeats 1000000 in
/-- Read of a page that was written: the bytes are the caller's. -/
theorem bread_dirty (n : Int) (hn0 : -9223372036854775808 ≤ n) (hn1 : n < 9223372036854775808) (bs : List UInt8) (w : World) (h : CacheAt w c L C) (hd : C.dirty n = some bs) (hl : bs.length = 512) :
    Calls Tryz.prog 25 #[.pointer (some ⟨c, 0, none⟩), .int .i64 n] w fun e w' => ∃ g cap, e = .returned (.tuple #[.slice (some ⟨g, 0, none⟩) 512 cap, .int .i64 0]) ∧ w'.ownsRow w.heap.size 5 1 (.slice (some ⟨g, 0, none⟩) 512 cap) 512 (bs.map U8) ∧ Below w.heap.size w w' := by
  obtain ⟨c0, c1, -, -, -⟩ := h.cells
  have H := hid h
  cases hdv : L.dv n with
  | none => rw [h.clean n hdv] at hd; cases hd
  | some v =>
    obtain ⟨g0, cap0, bs', h1, rfl, h3, h4, h5⟩ := h.bytes n v hdv
    rw [hd] at h1
    obtain rfl := Option.some.inj h1
    have HDv := hid hdv
    have hcl := bclone_any bs ⟨g0, 0, none⟩ cap0 w (by omega) (by omega) h3
    rw [h4] at hcl
    have HCl := hid hcl
    clear h hd hdv h1 h3 h4 h5 hcl hl
    go_enter Tryz.func25, Tryz.ntmps25
    go_wp2_with (refine wpList_lookup_grp rfl (.tmp 16) (.tmp 17) 80 rfl 49 Tryz.underlying80 (Tryz.zeroValue49 _) rfl H.out.dirty n rfl hn0 hn1 (.slice (some ⟨g0, 0, none⟩) 512 cap0) true (by rw [HDv.out]; rfl) (by rw [HDv.out]; rfl) ?_)
    refine HCl.out.mono ?_
    clear HCl
    rintro e w1 ⟨g, cap, rfl, hrow, hb⟩
    have HB := hid hb
    have HR := hid hrow
    clear hb hrow
    go_wp2
    go_returns
    exact ⟨g, cap, rfl, HR.out, HB.out⟩
end
theorem madeN512 (n : Nat) : madeCells (Value.int .u8 0).cells (n * 1) = ((zN n).map U8).toArray := by
  rw [← rep_U8]
  apply Array.ext
  · simp [madeCells]
  · intro i h1 h2
    simp [madeCells, Value.cells, Nat.mod_one]
theorem infoU8b : (Tryz.prog.info? 5).map (fun i => (i.zero, i.size, i.bytes)) = some (some (.int .u8 0), 1, 1) := by kernel_rfl
theorem run_mk512 (w : World) : (Instr.makeSlice 49 (.int .i64 512) (.int .i64 512)).run Tryz.prog w = .ok (.slice (some ⟨w.heap.size, 0, none⟩) 512 512) (w.alloc (.cells ((zN 512).map U8).toArray 5)) := by
  obtain ⟨i, hi, hz, hs, hb⟩ := info_parts infoU8b
  have hrun := run_make (P := Tryz.prog) w 49 5 i (.int .u8 0) Tryz.underlying49 hi hz .i64 .i64 512 512 (by omega) (by omega) (by rw [hb]; omega) (by omega)
  simp only [hs] at hrun
  have e : madeCells (Value.int .u8 0).cells (Int.toNat 512 * 1) = ((zN 512).map U8).toArray := madeN512 512
  rw [e] at hrun
  exact hrun
end Go.Proofs.YtjgclmlclkfgpaaGreat
