/- TarfmtCuts' walk. -/
import Derived.Test.YtdfnhgkabaikaaaTBackW
namespace Go.Proofs.Ytdfnhgkabaikaaa
open Go.RowKit
theorem Tar.cut {w : World} {es : List EN} {g n : Nat} (h : Tar w es g n) {j : Nat} (hj : j ≤ n) : Rd w (.slice (some ⟨g, 0, none⟩) j n) ((tarB es).take j) := by
  have hl : ((tarB es).take j).length = j := by rw [List.length_take, h.len]; omega
  have hmx := h.max
  refine ⟨_, n, by rw [hl], by omega, by omega, (fun h => by cases h), fun ad ha i x hx => ?_⟩
  cases ha
  have hi : i < j := by have := (List.getElem?_eq_some_iff.1 hx).1; omega
  rw [List.getElem?_take_of_lt hi] at hx
  refine ⟨g, 0, rfl, lt_of_heap h.blk, ?_⟩
  rw [Nat.zero_add, h.blk.cell i (by rw [h.len]; omega), List.getD_eq_getElem?_getD, hx]
  rfl
theorem Tar.parse_cut {w : World} {es : List EN} {g n : Nat} (h : Tar w es g n) {j : Nat} (hj : j < n) : Calls Try.prog 17 #[.slice (some ⟨g, 0, none⟩) j n] w fun e w' => Below w.heap.size w w' ∧ ∃ m : Nat, m ≤ j ∧ e = .returned (.tuple #[.slice none 0 0, .int .i64 3, .int .i64 m]) := by
  have hl : ((tarB es).take j).length = j := by rw [List.length_take, h.len]; omega
  have h1 := parse_any ((tarB es).take j) (some ⟨g, 0, none⟩) n w (by have := h.cut (Nat.le_of_lt hj); rw [hl]; exact this)
  rw [hl] at h1
  refine h1.mono ?_
  rintro e w' ⟨hB, h2⟩
  have hmx := h.max
  obtain ⟨m, hm, hle⟩ := Go.Proofs.Ytdfnhgkabaikaaa.parse_cut (l := es) 118 0 [] j h.right (by rw [h.len]; exact hj)
  rw [if_neg (by omega), hm] at h2
  exact ⟨hB, m, by omega, h2⟩
set_option maxHeartbeats 2000000 in
set_option maxRecDepth 100000 in
theorem cuts_walk (l : List (EN × Value)) (la : Option Addr) (lc a : Nat) (w : World) (h : entsAt w la l) (hl : l.length ≤ 1954687338212) (ha : a < 65536) :
    Calls Try.prog 7 #[.slice la l.length lc, .int .u16 (a : Nat)] w fun e w' => e = .returned (.bool true) ∧ Below w.heap.size w w' := by
  have HP := hid (print_any l la lc w h (by omega))
  clear h hl
  go_enter Try.func7, Try.ntmps7
  go_wp2_with fail
  refine HP.out.mono ?_
  clear HP
  rintro e w1 h1
  obtain ⟨hB1, ⟨er, hE, rfl⟩ | ⟨g, n, hg, rfl, hT⟩⟩ := print_to h1
  · have hne : (er != 0) = true := bne_iff_ne.2 hE.ne
    have HB := hid hB1
    clear h1 hB1 hE
    go_wp2_with fail
    refine (tlive_any w1).mono ?_
    rintro e w2 ⟨rfl, hB2⟩
    have HB2 : Hid (Below w.heap.size w w2) := HB.out.trans (hB2.mono HB.out.size)
    clear hB2 HB
    go_wp2
    go_ret
    exact ⟨rfl, HB2.out⟩
  · have HB := hid hB1
    have HT := hid hT
    have hn0 : 1024 ≤ n := by have := hT.len; rw [tarB_len hT.right] at this; omega
    have hn1 : n ≤ 60000 := hT.max
    clear h1 hB1 hg hT
    obtain ⟨j, hj, hjn⟩ : ∃ j : Nat, ((a : Int) % (n : Int)) = (j : Int) ∧ j < n := ⟨a % n, by omega, Nat.mod_lt _ (by omega)⟩
    have q0 : ((n : Int) == 0) = false := beq_eq_false_iff_ne.2 (by omega)
    have q1 : ¬ ((n : Int) = 0) := by omega
    have q2 : (0 : Int) ≤ (j : Int) := by omega
    have q3 : (j : Int) ≤ (n : Int) := by omega
    have q4 : ¬ (n = 0) := by omega
    have HN := hid hn0
    have HM := hid hn1
    have HJ := hid hjn
    clear hn0 hn1 hjn
    go_wp2_with fail
    refine (HT.out.parse_cut HJ.out).mono ?_
    rintro e w2 ⟨hB2, m, hm, rfl⟩
    have HB2 : Hid (Below w.heap.size w w2) := HB.out.trans (hB2.mono HB.out.size)
    have q5 : (m : Int) ≤ (j : Int) := by omega
    clear hB2 HB HT hm HJ HN HM
    go_wp2_with fail
    refine (tlive_any w2).mono ?_
    rintro e w3 ⟨rfl, hB3⟩
    have HB3 : Hid (Below w.heap.size w w3) := HB2.out.trans (hB3.mono HB2.out.size)
    clear hB3 HB2
    go_wp2
    go_ret
    exact ⟨rfl, HB3.out⟩
end Go.Proofs.Ytdfnhgkabaikaaa
