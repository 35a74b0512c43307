/- The cache's Write, where it is refused. -/
import Derived.Test.YtjgclmlclkfgpaaGreatBPlain
namespace Go.Proofs.YtjgclmlclkfgpaaGreat
open Go.RowKit
section
variable {c : Nat} {L : CLay} {C : CS}
set_option maxRecDepth 100000 in
set_option maxHeartbeats 1000000 in
theorem bwrite_range (n : Int) (v : Value) (w : World) (h : CacheAt w c L C) (hn : ¬ (0 ≤ n ∧ n < (C.N : Int))) :
    Calls Tryz.prog 27 #[.pointer (some ⟨c, 0, none⟩), .int .i64 n, v] w fun e w' => e = .returned (.int .i64 2) ∧ Below w.heap.size w w' := by
  obtain ⟨c0, c1, -, -, c4⟩ := h.cells
  have hpg := log_pages w h.log h.fits
  rw [← h.pages] at hpg
  have HPg := hid hpg
  clear h hpg
  by_cases h0 : n < 0
  · clear hn
    go_enter Tryz.func27, Tryz.ntmps27
    go_wp2
    go_ret
    exact ⟨rfl, Below.refl _ _⟩
  · have h1 : n ≥ (C.N : Int) := by omega
    clear hn
    go_enter Tryz.func27, Tryz.ntmps27
    go_wp2_with fail
    refine HPg.out.mono ?_
    clear HPg
    rintro e w1 ⟨rfl, hb1⟩
    have HB := hid hb1
    clear hb1
    go_wp2
    go_ret
    exact ⟨rfl, HB.out⟩
set_option maxRecDepth 100000 in
set_option maxHeartbeats 1000000 in
theorem bwrite_form (n : Nat) (a : Option Addr) (ln cp : Nat) (w : World) (h : CacheAt w c L C) (hn : n < C.N) (hl : ¬ ((ln : Int) = 512)) :
    Calls Tryz.prog 27 #[.pointer (some ⟨c, 0, none⟩), .int .i64 n, .slice a ln cp] w fun e w' => e = .returned (.int .i64 3) ∧ Below w.heap.size w w' := by
  obtain ⟨c0, c1, -, -, c4⟩ := h.cells
  have hpg := log_pages w h.log h.fits
  rw [← h.pages] at hpg
  have HPg := hid hpg
  clear h hpg
  have hn0 : ¬ ((n : Int) < 0) := by omega
  have hn1 : ¬ ((n : Int) ≥ (C.N : Int)) := by omega
  have hl2 : ((ln : Int) == 512) = false := beq_eq_false_iff_ne.2 hl
  have hl3 : ((ln : Int) != 512) = true := by simpa using hl
  go_enter Tryz.func27, Tryz.ntmps27
  go_wp2_with fail
  refine HPg.out.mono ?_
  clear HPg
  rintro e w1 ⟨rfl, hb1⟩
  have HB := hid hb1
  clear hb1
  go_wp2
  go_ret
  exact ⟨rfl, HB.out⟩
set_option maxRecDepth 100000 in
set_option maxHeartbeats 1000000 in
theorem bwrite_full (n : Nat) (ad : Option Addr) (cp : Nat) (w : World) (h : CacheAt w c L C) (hn : n < C.N) (hd : C.dirty n = none) (hr : C.dirtyKeys.length = min C.size 100) :
    Calls Tryz.prog 27 #[.pointer (some ⟨c, 0, none⟩), .int .i64 n, .slice ad 512 cp] w fun e w' => e = .returned (.int .i64 7) ∧ Below w.heap.size w w' := by
  obtain ⟨c0, c1, -, -, c4⟩ := h.cells
  have H := hid h
  have hpg := log_pages w h.log h.fits
  rw [← h.pages] at hpg
  have HPg := hid hpg
  have hN := h.pagesLe
  have HRm := hid (fun W (hW : Below w.heap.size w W) => broom_any W (h.below hW))
  have hsi := h.some_iff (n : Int)
  have HC : Hid (∀ W, Below w.heap.size w W → W.cell? ⟨c, 0, none⟩ = some (.pointer (some ⟨L.p, 0, none⟩)) ∧ W.cell? ⟨c, 1, none⟩ = some (.map (some L.dm))) := fun W hW => by
    obtain ⟨x0, x1, -, -, x4⟩ := (h.below hW).cells
    exact ⟨x0, x1⟩
  have hdv : L.dv (n : Int) = none := by
    rw [hd] at hsi
    cases hv : L.dv (n : Int) with
    | none => rfl
    | some v => rw [hv] at hsi; cases hsi
  have HDv := hid hdv
  clear h hpg hdv hsi hd
  have hn0 : ¬ ((n : Int) < 0) := by omega
  have hn1 : ¬ ((n : Int) ≥ (C.N : Int)) := by omega
  have HN4 := hid hN
  have HN5 := hid hn
  clear hN hn
  generalize min C.size 100 = cpp at *
  generalize C.dirtyKeys.length = dk at *
  subst hr
  have hne : ((dk : Int) - (dk : Int) == 0) = true := beq_iff_eq.2 (by omega)
  have hne' : ((dk : Int) - (dk : Int)) = 0 := by omega
  go_enter Tryz.func27, Tryz.ntmps27
  go_wp2_with fail
  refine HPg.out.mono ?_
  clear HPg
  rintro e w1 ⟨rfl, hb1⟩
  have HB1 := hid hb1
  have HD1 := hid (H.out.dirty.below hb1)
  obtain ⟨d0, d1⟩ := HC.out w1 hb1
  have HR1 := hid (HRm.out w1 hb1)
  clear hb1 c0 c1 c4 HRm
  go_wp2_with (first
    | (at_lookup; refine wpList_lookup_grp rfl (.tmp 29) (.tmp 30) 80 rfl 49 Tryz.underlying80 (Tryz.zeroValue49 _) rfl HD1.out (n : Int) rfl (by omega) (by have := HN4.out; have := HN5.out; omega) (.slice none 0 0) false (by rw [HDv.out]; rfl) (by rw [HDv.out]; rfl) ?_)
    | fail)
  refine HR1.out.mono ?_
  clear HR1
  rintro e w2 ⟨rfl, hb2⟩
  have HB2 := hid (HB1.out.trans (hb2.mono HB1.out.size))
  clear hb2 d0 d1
  go_wp2
  go_ret
  exact ⟨rfl, HB2.out⟩
end
end Go.Proofs.YtjgclmlclkfgpaaGreat
