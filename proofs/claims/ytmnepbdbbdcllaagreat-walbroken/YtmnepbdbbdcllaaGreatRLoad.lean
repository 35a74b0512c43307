/- dunnageref01.Load, at, Image: an image that is a disk of the reference. -/
import Derived.Test.YtmnepbdbbdcllaaGreatBaseB
namespace Go.Proofs.YtmnepbdbbdcllaaGreat
open Go.RowKit
set_option maxRecDepth 100000 in
theorem rimage_nil (w : World) : Calls Tryz.prog 23 #[.pointer none] w fun e w' => e = .returned (.slice none 0 0) ∧ w' = w := by
  go_enter Tryz.func23, Tryz.ntmps23
  go_wp2
  go_ret
  exact ⟨rfl, rfl⟩
set_option maxRecDepth 100000 in
set_option maxHeartbeats 2000000 in
theorem rat_zero (L : List (List UInt8)) (r : Nat) (a : Option Addr) (c : Nat) (lv : Value) (w : World) (hr : w.heap[r]? = some (.cells #[.slice a L.length c, lv] 88 (0, 0))) (h : rowsAt w a L) (hn : L.length ≤ 4096) (h5 : ∀ l ∈ L, l.length = 512) :
    Calls Tryz.prog 54 #[.pointer (some ⟨r, 0, none⟩), .int .i64 0] w fun e w' => ∃ a' c', e = .returned (.slice a' L.length c') ∧ rowsFrom w' w.heap.size a' L ∧ Below w.heap.size w w' := by
  have c0 : w.cell? ⟨r, 0, none⟩ = some (.slice a L.length c) := by rw [cell_of_block hr]; rfl
  have HC := hid (copyAll_any L a c w h hn h5)
  clear h hr
  go_enter Tryz.func54, Tryz.ntmps54
  go_wp2_with fail
  refine HC.out.mono ?_
  clear HC
  rintro e w1 ⟨a', c', rfl, hrows, hB⟩
  have HR := hid hrows
  have HB := hid hB
  clear hrows hB
  go_wp2
  go_loopw [6] (fun i wr => i = .int .i64 0 ∧ wr = w1) (fun _ _ => 0)
  case atStart => exact ⟨rfl, rfl⟩
  case round =>
    obtain ⟨rfl, rfl⟩ := hrel
    go_wp2
    go_ret
    first | exact ⟨a', c', rfl, HR.out, HB.out⟩ | exact ⟨a', ⟨c', rfl⟩, HR.out, HB.out⟩
set_option maxRecDepth 100000 in
set_option maxHeartbeats 2000000 in
theorem rimage_first (L : List (List UInt8)) (r : Nat) (a : Option Addr) (c : Nat) (w : World) (hr : w.heap[r]? = some (.cells #[.slice a L.length c, .slice none 0 0] 88 (0, 0))) (h : rowsAt w a L) (hn : L.length ≤ 4096) (h5 : ∀ l ∈ L, l.length = 512) :
    Calls Tryz.prog 23 #[.pointer (some ⟨r, 0, none⟩)] w fun e w' => ∃ a' c', e = .returned (.slice a' L.length c') ∧ rowsFrom w' w.heap.size a' L ∧ Below w.heap.size w w' := by
  have c1 : w.cell? ⟨r, 1, none⟩ = some (.slice none 0 0) := by rw [cell_of_block hr]; rfl
  have HC := hid (rat_zero L r a c _ w hr h hn h5)
  clear h hr
  go_enter Tryz.func23, Tryz.ntmps23
  go_wp2_with fail
  refine HC.out.mono ?_
  clear HC
  rintro e w1 ⟨a', c', rfl, hrows, hB⟩
  have HR := hid hrows
  have HB := hid hB
  clear hrows hB
  go_wp2
  go_ret
  first | exact ⟨a', c', rfl, HR.out, HB.out⟩ | exact ⟨a', ⟨c', rfl⟩, HR.out, HB.out⟩
/-- What Load of the reference leaves. -/
def rloaded (L : List (List UInt8)) (w w' : World) (e : Ending) : Prop := Below w.heap.size w w' ∧
      ((¬ (1 ≤ L.length ∧ L.length ≤ 4096) ∧ e = .returned (.tuple #[.pointer none, .int .i64 2])) ∨
       ((1 ≤ L.length ∧ L.length ≤ 4096) ∧ ¬ (∀ l ∈ L, l.length = 512) ∧ e = .returned (.tuple #[.pointer none, .int .i64 3])) ∨
       ((1 ≤ L.length ∧ L.length ≤ 4096) ∧ (∀ l ∈ L, l.length = 512) ∧ ∃ r a' c', e = .returned (.tuple #[.pointer (some ⟨r, 0, none⟩), .int .i64 0]) ∧ w.heap.size ≤ r ∧
         w'.heap[r]? = some (.cells #[.slice a' L.length c', .slice none 0 0] 88 (0, 0)) ∧ rowsFrom w' w.heap.size a' L))
set_option maxRecDepth 100000 in
set_option maxHeartbeats 2000000 in
theorem rload_any (L : List (List UInt8)) (a : Option Addr) (c : Nat) (w : World) (h : rowsAt w a L) (hL : L.length ≤ 4611686018427387904) :
    Calls Tryz.prog 25 #[.slice a L.length c] w fun e w' => rloaded L w w' e := by
  have H := hid h
  clear h
  go_enter Tryz.func25, Tryz.ntmps25
  by_cases hn : 1 ≤ L.length ∧ L.length ≤ 4096
  · have g1 : ¬ ((L.length : Int) < 1) := by omega
    have g2 : ¬ ((4096 : Int) < (L.length : Int)) := by omega
    go_wp2
    go_loopw [4] (fun i wr => ∃ k : Nat, k ≤ L.length ∧ i = .int .i64 k ∧ wr = w ∧ Hid (∀ j (hj : j < L.length), j < k → L[j].length = 512)) (fun i _ => L.length - (intOf i).toNat)
    case atStart => exact ⟨0, by omega, rfl, rfl, fun j hj h => by omega⟩
    case round =>
      obtain ⟨k, hk, rfl, rfl, hG⟩ := hrel
      by_cases hlt : k < L.length
      · have hi0 : (0 : Int) ≤ (k : Int) := by omega
        have hi1 : (k : Int) < (L.length : Int) := by omega
        obtain ⟨b, o, rfl, hc⟩ := H.out k hlt
        obtain ⟨a', c', ck, -⟩ := hc k hlt
        by_cases h5 : L[k].length = 512
        · have HG2 : Hid (∀ j (hj : j < L.length), j < k + 1 → L[j].length = 512) := fun j hj hjk => by
            rcases Nat.lt_or_ge j k with h1 | h1
            · exact hG.out j hj h1
            · obtain rfl : j = k := by omega
              exact h5
          rw [h5] at ck
          clear hc h5 hG
          go_wp2
          exact ⟨⟨k + 1, by omega, by go_num, trivial, HG2.out⟩, by simp [intOf]; omega⟩
        · have h5' : ¬ ((L[k].length : Int) = 512) := by omega
          have HNo : Hid (¬ ∀ l ∈ L, l.length = 512) := fun hall => h5 (hall _ (List.getElem_mem hlt))
          generalize L[k].length = m at *
          clear hc h5 hG
          go_wp2
          go_returns
          exact ⟨Below.refl _ _, .inr (.inl ⟨hn, HNo.out, rfl⟩)⟩
      · obtain rfl : k = L.length := by omega
        have hge : ¬ ((L.length : Int) < (L.length : Int)) := by omega
        have HAll : Hid (∀ l ∈ L, l.length = 512) := fun l hl => by
          obtain ⟨j, hj, rfl⟩ := List.getElem_of_mem hl
          exact hG.out j hj hj
        have HC := hid (fun W (hW : rowsAt W a L) => copyAll_any L a c W hW hn.2 HAll.out)
        clear hG
        go_wp2_with fail
        refine (HC.out _ H.out).mono ?_
        clear HC
        rintro e w1 ⟨a', c', rfl, hrows, hB⟩
        have HR := hid hrows
        have HB := hid hB
        have HN := hid (block_new w1 (.cells #[.slice a' L.length c', .slice none 0 0] 88))
        clear hrows hB
        go_wp2
        go_returns
        exact ⟨HB.out.alloc HB.out.size _, .inr (.inr ⟨hn, HAll.out, w1.heap.size, a', c', rfl, HB.out.size, HN.out, HR.out.below ((Below.refl _ _).alloc (Nat.le_refl _) _)⟩)⟩
  · by_cases h1 : L.length < 1
    · have g1 : (L.length : Int) < 1 := by omega
      go_wp2
      go_returns
      exact ⟨Below.refl _ _, .inl ⟨hn, rfl⟩⟩
    · have g1 : ¬ ((L.length : Int) < 1) := by omega
      have g2 : (4096 : Int) < (L.length : Int) := by omega
      go_wp2
      go_returns
      exact ⟨Below.refl _ _, .inl ⟨hn, rfl⟩⟩
end Go.Proofs.YtmnepbdbbdcllaaGreat
