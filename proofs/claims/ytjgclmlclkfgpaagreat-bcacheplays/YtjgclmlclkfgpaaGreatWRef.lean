/- The reference: Fork; head and Open of a disk of noughts; law03's open. -/
import Derived.Test.YtjgclmlclkfgpaaGreatBaseD
import Derived.Test.YtjgclmlclkfgpaaGreatBaseB
namespace Go.Proofs.YtjgclmlclkfgpaaGreat
open Go.RowKit
theorem RefIn.fork {w w' : World} {r r' : Nat} {fv lv : Value} {vs : List Value} {Rd : Nat → Prop} {R : RefS} (h : RefIn w r fv lv vs Rd R) (k : Below w.heap.size w w') (hr : ¬ Rd r')
    (hb : w'.heap[r']? = some (.cells #[fv, lv] 109 (0, 0))) : RefIn w' r' fv lv vs Rd R := by
  have hk := h.keep (Keeps.of_below (F := fun _ => False) k) (fun _ _ h => h) (fun h => h)
  exact ⟨hb, hr, hk.first, hk.firstRd, hk.ops, hk.opsRd, hk.len, hk.nilv, hk.bytes⟩
set_option maxRecDepth 100000 in
set_option maxHeartbeats 1000000 in
theorem rfork_any (r : Nat) (fv lv : Value) (vs : List Value) (Rd : Nat → Prop) (R : RefS) (w : World) (h : RefIn w r fv lv vs Rd R) (hrd : ∀ i, Rd i → i < w.heap.size) :
    Calls Tryz.prog 56 #[.pointer (some ⟨r, 0, none⟩)] w fun e w' => e = .returned (.pointer (some ⟨w.heap.size, 0, none⟩)) ∧ Below w.heap.size w w' ∧ RefIn w' w.heap.size fv lv vs Rd R := by
  have H := hid h
  have HRd := hid hrd
  obtain ⟨fa, fc, rfl, -⟩ := h.first
  obtain ⟨sa, cap, rfl, -⟩ := h.slice
  have c0 : w.cell? ⟨r, 0, none⟩ = some (.slice fa R.first.length fc) := cell_of_block h.heap 0
  have c1 : w.cell? ⟨r, 1, none⟩ = some (.slice sa R.l.length cap) := cell_of_block h.heap 1
  have hrl := lt_of_heap h.heap
  clear h hrd
  go_enter Tryz.func56, Tryz.ntmps56
  go_wp2
  refine wp_region_noPanic ?_
  refine wp_region_held_drew (S := fun W => W.cell? ⟨r, 0, none⟩ = some (.slice fa R.first.length fc) ∧ W.cell? ⟨r, 1, none⟩ = some (.slice sa R.l.length cap)) (by kernel_rfl) ⟨c0, c1⟩ (fun hHeld => ?_)
  refine wpAnyH_take (i := 0) (v := ?_) rfl (by kernel_rfl) (by kernel_rfl) (by kernel_rfl) (fun _ _ _ h => h) (Or.inl ⟨by rfl, ?_⟩) (by assumption) ?_
  rotate_left
  · (intro W hSw; (try dsimp only at hSw); obtain ⟨s1, s2⟩ := hSw; go_simp; try with_reducible rfl)
  try simp only [List.getElem_toArray, List.getElem_cons_zero, Act.put, List.setIfInBounds_toArray, List.set_cons_zero, List.set_cons_succ]
  refine wpAnyH_take (i := 1) (v := ?_) rfl (by kernel_rfl) (by kernel_rfl) (by kernel_rfl) (fun _ _ _ h => h) (Or.inl ⟨by rfl, ?_⟩) (by assumption) ?_
  rotate_left
  · (intro W hSw; (try dsimp only at hSw); obtain ⟨s1, s2⟩ := hSw; go_simp; try with_reducible rfl)
  try simp only [List.getElem_toArray, List.getElem_cons_succ, List.getElem_cons_zero, Act.put, List.setIfInBounds_toArray, List.set_cons_zero, List.set_cons_succ]
  refine wpAnyH_take (i := 2) (v := ?_) rfl (by kernel_rfl) (by kernel_rfl) (by kernel_rfl) (fun _ _ _ h => h) (Or.inl ⟨by rfl, ?_⟩) (by assumption) ?_
  rotate_left
  · (intro W hSw; (try dsimp only at hSw); obtain ⟨s1, s2⟩ := hSw; go_simp; try with_reducible rfl)
  try simp only [List.getElem_toArray, List.getElem_cons_succ, List.getElem_cons_zero, Act.put, List.setIfInBounds_toArray, List.set_cons_zero, List.set_cons_succ]
  refine wpAnyH_take (i := 3) (v := ?_) rfl (by kernel_rfl) (by kernel_rfl) (by kernel_rfl) (fun _ _ _ h => h) (Or.inl ⟨by rfl, ?_⟩) (by assumption) ?_
  rotate_left
  · (intro W hSw; (try dsimp only at hSw); obtain ⟨s1, s2⟩ := hSw; go_simp; try with_reducible rfl)
  try simp only [List.getElem_toArray, List.getElem_cons_succ, List.getElem_cons_zero, Act.put, List.setIfInBounds_toArray, List.set_cons_zero, List.set_cons_succ]
  refine wpAnyH_take (i := 4) (v := ?_) rfl (by kernel_rfl) (by kernel_rfl) (by kernel_rfl) (fun _ _ _ h => h) (Or.inl ⟨by rfl, ?_⟩) (by assumption) ?_
  rotate_left
  · (intro W hSw; (try dsimp only at hSw); obtain ⟨s1, s2⟩ := hSw; go_simp; try with_reducible rfl)
  try simp only [List.getElem_toArray, List.getElem_cons_succ, List.getElem_cons_zero, Act.put, List.setIfInBounds_toArray, List.set_cons_zero, List.set_cons_succ]
  refine wpAnyH_take (i := 5) (v := ?_) rfl (by kernel_rfl) (by kernel_rfl) (by kernel_rfl) (fun _ _ _ h => h) (Or.inl ⟨by rfl, ?_⟩) (by assumption) ?_
  rotate_left
  · (intro W hSw; (try dsimp only at hSw); obtain ⟨s1, s2⟩ := hSw; go_simp; try with_reducible rfl)
  try simp only [List.getElem_toArray, List.getElem_cons_succ, List.getElem_cons_zero, Act.put, List.setIfInBounds_toArray, List.set_cons_zero, List.set_cons_succ]
  refine wpAnyH_take (i := 6) (v := ?_) rfl (by kernel_rfl) (by kernel_rfl) (by kernel_rfl) (fun _ _ _ h => h) (Or.inl ⟨by rfl, ?_⟩) (by assumption) ?_
  rotate_left
  · (intro W hSw; (try dsimp only at hSw); obtain ⟨s1, s2⟩ := hSw; go_simp; try with_reducible rfl)
  try simp only [List.getElem_toArray, List.getElem_cons_succ, List.getElem_cons_zero, Act.put, List.setIfInBounds_toArray, List.set_cons_zero, List.set_cons_succ]
  refine wpAnyH_take (i := 7) (v := ?_) rfl (by kernel_rfl) (by kernel_rfl) (by kernel_rfl) (fun _ _ _ h => h) (Or.inl ⟨by rfl, ?_⟩) (by assumption) ?_
  rotate_left
  · (intro W hSw; (try dsimp only at hSw); obtain ⟨s1, s2⟩ := hSw; go_simp; try with_reducible rfl)
  try simp only [List.getElem_toArray, List.getElem_cons_succ, List.getElem_cons_zero, Act.put, List.setIfInBounds_toArray, List.set_cons_zero, List.set_cons_succ]
  refine wpAnyH_take (i := 8) (v := ?_) rfl (by kernel_rfl) (by kernel_rfl) (by kernel_rfl) (fun _ _ _ h => h) (Or.inl ⟨by rfl, ?_⟩) (by assumption) ?_
  rotate_left
  · (intro W hSw; (try dsimp only at hSw); obtain ⟨s1, s2⟩ := hSw; go_simp; try with_reducible rfl)
  try simp only [List.getElem_toArray, List.getElem_cons_succ, List.getElem_cons_zero, Act.put, List.setIfInBounds_toArray, List.set_cons_zero, List.set_cons_succ]
  refine wpAnyH_ready (rs := [9]) (by kernel_rfl) (by simp) (AllReadyH.cons rfl (fun K hK => ?_) AllReadyH.nil)
  rw [if_pos (by rfl)]
  unfold Oper.wp
  go_simp
  refine hK.out _ _ ⟨(World.cell?_alloc_lt _ _ _ hrl).trans c0, (World.cell?_alloc_lt _ _ _ hrl).trans c1⟩ (fun hHeld => ?_)
  clear hK K
  try simp only [List.getElem_toArray, List.getElem_cons_succ, List.getElem_cons_zero, Act.put, List.setIfInBounds_toArray, List.set_cons_zero, List.set_cons_succ]
  refine wpAnyH_take (i := 10) (v := ?_) rfl (by kernel_rfl) (by kernel_rfl) (by kernel_rfl) (fun _ _ _ h => h) (Or.inl ⟨by rfl, ?_⟩) (by assumption) ?_
  rotate_left
  · (intro W hSw; (try dsimp only at hSw); obtain ⟨s1, s2⟩ := hSw; go_simp; try with_reducible rfl)
  try simp only [List.getElem_toArray, List.getElem_cons_succ, List.getElem_cons_zero, Act.put, List.setIfInBounds_toArray, List.set_cons_zero, List.set_cons_succ]
  refine wpAnyH_done (by kernel_rfl) ?_ _
  refine NoPanic.normal ?_
  clear hHeld c0 c1
  have HBl := hid ((Below.refl w.heap.size w).alloc (Nat.le_refl _) (.cells #[.slice fa R.first.length fc, .slice sa R.l.length cap] 109))
  have HNb := hid (block_new w (.cells #[.slice fa R.first.length fc, .slice sa R.l.length cap] 109))
  go_wp2
  go_ret
  have hBd : Below w.heap.size w _ := HBl.out.drew
  exact ⟨rfl, hBd, H.out.fork hBd (fun h => Nat.lt_irrefl _ (HRd.out _ h)) HNb.out⟩
/-- A log of the reference in memory. -/
structure RLogIn (w : World) (q r : Nat) (fv lv : Value) (vs : List Value) (Rd : Nat → Prop) (R : RefS) (size rec : Nat) : Prop where
  heap : w.heap[q]? = some (.cells #[.pointer (some ⟨r, 0, none⟩), .int .i64 size, .int .i64 rec] 105 (0, 0))
  disk : RefIn w r fv lv vs Rd R
  rd : ∀ i, Rd i → i < w.heap.size
  off : ¬ Rd q
  ne : q ≠ r
theorem okR_fresh (n : Nat) (hn : n ≤ 4096) : okR (rfresh n) := by
  refine ⟨by rw [rfresh_length]; exact hn, fun l hl => ?_, fun o ho => by simp [rfresh] at ho⟩
  have : l = zeros := by
    obtain ⟨i, hi, rfl⟩ := List.mem_iff_getElem.1 hl
    exact rfresh_at n i hi
  rw [this]; exact length_zeros
set_option maxRecDepth 100000 in
set_option maxHeartbeats 1000000 in
theorem rhead_zero (q r : Nat) (fv lv : Value) (vs : List Value) (Rd : Nat → Prop) (R : RefS) (size rec : Nat) (w : World) (h : RLogIn w q r fv lv vs Rd R size rec) (hR : okR R) (hm : R.l.length ≤ 1000000) (h0 : 0 < R.first.length) (hz : (atL R R.l.length)[0]? = some zeros) :
    Calls Tryz.prog 77 #[.pointer (some ⟨q, 0, none⟩)] w fun e w' => e = .returned (.tuple #[.slice none 0 0, .bool true]) ∧ Below w.heap.size w w' := by
  have c0 : w.cell? ⟨q, 0, none⟩ = some (.pointer (some ⟨r, 0, none⟩)) := cell_of_block h.heap 0
  have HRe := hid (rread_ok r fv lv vs Rd R 0 zeros w h.disk hR hm (by omega) (by omega) hz length_zeros)
  clear h
  go_enter Tryz.func77, Tryz.ntmps77
  go_wp2_with fail
  refine HRe.out.mono ?_
  clear HRe
  rintro e w1 ⟨hb1, g, cap, rfl, hat⟩
  have HB1 := hid hb1
  have HAt : Hid (∀ k : Nat, k < 512 → w1.cell? ⟨g, k, none⟩ = some (.int .u8 0)) := fun k hk => by
    obtain ⟨b, o, e, hc⟩ := hat k (by rw [length_zeros]; exact hk)
    simp only [Option.some.injEq, Addr.mk.injEq, and_true] at e
    obtain ⟨rfl, rfl⟩ := e
    have := hc k (by rw [length_zeros]; exact hk)
    rw [zeros_at, Nat.zero_add] at this
    exact this
  clear hb1 hat c0 hz
  go_wp2
  go_loopw [6, 7] (fun a i wr => wr = w1 ∧ a = .bool true ∧ ∃ k : Nat, k ≤ 512 ∧ i = .int .i64 k) (fun _ i _ => 512 - (intOf i).toNat)
  case atStart => exact ⟨rfl, rfl, 0, by omega, rfl⟩
  case round =>
    obtain ⟨rfl, rfl, k, hk, rfl⟩ := hrel
    by_cases hlt : k < 512
    · have hk0 : (0 : Int) ≤ (k : Int) := by omega
      have hk1 : (k : Int) < 512 := by omega
      have ck := HAt.out k hlt
      go_wp2
      exact ⟨⟨by first | rfl | trivial, by first | rfl | trivial, k + 1, by omega, by go_num⟩, by simp [intOf]; omega⟩
    · obtain rfl : k = 512 := by omega
      have hge : ¬ (((512 : Nat) : Int) < 512) := by omega
      go_wp2
      go_returns
      exact ⟨rfl, HB1.out⟩
set_option maxRecDepth 100000 in
set_option maxHeartbeats 1000000 in
theorem ropen_zero (r : Nat) (fv lv : Value) (vs : List Value) (Rd : Nat → Prop) (R : RefS) (size : Nat) (w : World) (h : RefIn w r fv lv vs Rd R) (hrd : ∀ i, Rd i → i < w.heap.size) (hR : okR R) (hm : R.l.length ≤ 1000000) (h1 : 1 ≤ size) (h2 : size + 2 ≤ R.first.length) (hz : (atL R R.l.length)[0]? = some zeros) :
    Calls Tryz.prog 41 #[.pointer (some ⟨r, 0, none⟩), .int .i64 size] w fun e w' => Below w.heap.size w w' ∧ ∃ q r', e = .returned (.tuple #[.pointer (some ⟨q, 0, none⟩), .int .i64 0]) ∧ w.heap.size ≤ q ∧ w.heap.size ≤ r' ∧
      RLogIn w' q r' fv lv vs Rd R size 0 := by
  have hl := hR.1
  have HSe := hid (rsectors_any r fv lv vs Rd R w h)
  have HFk := hid (rfork_any r fv lv vs Rd R w h hrd)
  have HRd := hid hrd
  have HR := hid hR
  have HZ := hid hz
  have hs1 : (1 : Int) ≤ (size : Int) := by omega
  have hs2 : (size : Int) ≤ (R.first.length : Int) - 2 := by omega
  clear h hrd hR hz
  go_enter Tryz.func41, Tryz.ntmps41
  go_wp2_with fail
  refine HSe.out.mono ?_
  clear HSe
  rintro e w1 ⟨rfl, hw1⟩
  obtain rfl := hw1.symm
  go_wp2_with fail
  refine HFk.out.mono ?_
  clear HFk
  rintro e w2 ⟨rfl, hb2, hR2⟩
  have hq := lt_of_heap hR2.heap
  have HB2 := hid hb2
  have hs22 := hb2.size
  have hrl : RLogIn (w2.alloc (.cells #[.pointer (some ⟨w.heap.size, 0, none⟩), .int .i64 size, .int .i64 0] 105)) w2.heap.size w.heap.size fv lv vs Rd R size 0 :=
    ⟨block_new w2 _, hR2.keep (Keeps.of_below (F := fun _ => False) ((Below.refl w2.heap.size w2).alloc (Nat.le_refl _) _)) (fun _ _ h => h) (fun h => h), fun i hi => by have := HRd.out i hi; have h2 := ((Below.refl w2.heap.size w2).alloc (Nat.le_refl _) (.cells #[.pointer (some ⟨w.heap.size, 0, none⟩), .int .i64 size, .int .i64 0] 105)).size; omega, fun hi => by have := HRd.out _ hi; omega, by omega⟩
  have HRl := hid hrl
  have HHe := hid (rhead_zero _ _ _ _ _ _ _ _ _ _ hrl HR.out hm (by omega) HZ.out)
  have HA := hid ((Below.refl w2.heap.size w2).alloc (Nat.le_refl _) (.cells #[.pointer (some ⟨w.heap.size, 0, none⟩), .int .i64 size, .int .i64 0] 105))
  clear hb2 hR2 hrl
  go_wp2_with fail
  generalize w2.alloc (.cells #[.pointer (some ⟨w.heap.size, 0, none⟩), .int .i64 size, .int .i64 0] 105) = wA at *
  refine HHe.out.mono ?_
  clear HHe
  rintro e w3 ⟨rfl, hb3⟩
  have hrl3 : RLogIn w3 w2.heap.size w.heap.size fv lv vs Rd R size 0 := ⟨below_block hb3 HRl.out.heap (lt_of_heap HRl.out.heap), HRl.out.disk.keep (Keeps.of_below (F := fun _ => False) hb3) (fun _ _ h => h) (fun h => h), fun i hi => Nat.lt_of_lt_of_le (HRl.out.rd i hi) hb3.size, HRl.out.off, HRl.out.ne⟩
  have HRl3 := hid hrl3
  have HB3 := hid (HB2.out.trans ((HA.out.trans (hb3.mono HA.out.size)).mono HB2.out.size))
  clear hrl3 hb3 HRl HA
  go_wp2
  go_returns
  exact ⟨HB3.out, w2.heap.size, w.heap.size, rfl, hs22, Nat.le_refl _, HRl3.out⟩
def freshN (n : Nat) : DiskS := freshS (List.replicate n blankS)
theorem freshN_len (n : Nat) : (freshN n).safe.length = n := by simp [freshN, freshS]
theorem freshN_seen (n k : Nat) (h : k < n) : seenS (freshN n).safe (freshN n).waits (k : Int) = blankS := by
  show (if ([] : List ByteArray) = [] then (List.replicate n blankS).getD ((k : Int)).toNat ⟨#[]⟩ else _) = _
  rw [if_pos rfl, show ((k : Int)).toNat = k by omega, List.getD_eq_getElem?_getD, List.getElem?_eq_getElem (by simpa using h), Option.getD_some, List.getElem_replicate]
end Go.Proofs.YtjgclmlclkfgpaaGreat
