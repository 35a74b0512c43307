/- TarfmtBack's and TarfmtAgain's walks. -/
import Derived.Test.YtdfnhgkabaikaaaTCutP
import Derived.Test.YtdfnhgkabaikaaaTSame
namespace Go.Proofs.Ytdfnhgkabaikaaa
open Go.RowKit
theorem PrE.ne {l : List (EN × Value)} {er : Int} (h : PrE l er) : er ≠ 0 := by
  cases h with
  | bad k hk hb hn => exact hn
  | long hr h => omega
theorem right_map {l : List (EN × Value)} (hr : ∀ i (hi : i < l.length), rightE l[i].1 = 0) : ∀ e ∈ l.map Prod.fst, rightE e = 0 := fun e he => by
  obtain ⟨x, hx, rfl⟩ := List.mem_map.1 he
  obtain ⟨i, hi, rfl⟩ := List.getElem_of_mem hx
  exact hr i hi
theorem tarB_len {es : List EN} (h : ∀ e ∈ es, rightE e = 0) : (tarB es).length = szs es + 1024 := by
  unfold tarB
  rw [List.length_append, flat_len h, List.length_replicate]
/-- A tar that was printed. -/
structure Tar (w : World) (es : List EN) (g n : Nat) : Prop where
  right : ∀ e ∈ es, rightE e = 0
  few : es.length ≤ 115
  len : (tarB es).length = n
  max : n ≤ 60000
  blk : blkB w g (tarB es)
/-- What Print tells, in short. -/
theorem print_to {w w' : World} {l : List (EN × Value)} {e : Ending} (h : PrintTo w l e w') : Below w.heap.size w w' ∧ ((∃ er, PrE l er ∧ e = .returned (.tuple #[.slice none 0 0, .int .i64 er])) ∨ ∃ g n, w.heap.size ≤ g ∧ e = .returned (.tuple #[.slice (some ⟨g, 0, none⟩) n n, .int .i64 0]) ∧ Tar w' (l.map Prod.fst) g n) := by
  refine ⟨h.1, h.2.imp id ?_⟩
  rintro ⟨hr, h256, hsz, g, hg, rfl, hb⟩
  have hm := right_map hr
  have hl := tarB_len hm
  have hs := sizeTo_szs l l.length
  rw [List.take_length] at hs
  have hge := szs_ge (l.map Prod.fst)
  rw [tarL_all hr] at hb
  exact ⟨g, _, hg, rfl, hm, by omega, by omega, hsz, hb⟩
theorem Tar.rd {w : World} {es : List EN} {g n : Nat} (h : Tar w es g n) : Rd w (.slice (some ⟨g, 0, none⟩) n n) (tarB es) := by
  have := rd_blk h.blk (by have := h.len; have := h.max; omega)
  rw [h.len] at this
  exact this
theorem Tar.up {w w' : World} {es : List EN} {g n : Nat} (h : Tar w es g n) (hB : Below w.heap.size w w') : Tar w' es g n := ⟨h.right, h.few, h.len, h.max, below_block hB h.blk (lt_of_heap h.blk)⟩
/-- It is parsed as it was. -/
theorem Tar.parse {w : World} {es : List EN} {g n : Nat} (h : Tar w es g n) : Calls Try.prog 17 #[.slice (some ⟨g, 0, none⟩) n n] w fun e w' => Below w.heap.size w w' ∧ ∃ (acc : List (EN × Value)) (la : Option Addr) (lc : Nat), acc.map Prod.fst = es ∧ e = .returned (.tuple #[.slice la acc.length lc, .int .i64 0, .int .i64 0]) ∧ entsAt w' la acc := by
  have h1 := parse_any (tarB es) (some ⟨g, 0, none⟩) n w (by have := h.rd; rw [h.len]; exact this)
  rw [h.len] at h1
  refine h1.mono ?_
  rintro e w' ⟨hB, h2⟩
  have hf := h.few
  have hmx := h.max
  have hln := h.len
  rw [if_neg (by omega), parse_tar h.right (by omega) (by simp; omega)] at h2
  obtain ⟨acc, lv, hac, rfl, hrow, hdat⟩ := h2
  obtain ⟨la, lc, rfl, hea, -, -, -⟩ := ents_of_row hrow hdat
  exact ⟨hB, acc, la, lc, by simpa using hac, rfl, hea⟩
set_option maxHeartbeats 2000000 in
set_option maxRecDepth 100000 in
theorem back_walk (l : List (EN × Value)) (la : Option Addr) (lc : Nat) (w : World) (h : entsAt w la l) (hl : l.length ≤ 1954687338212) :
    Calls Try.prog 4 #[.slice la l.length lc] w fun e w' => e = .returned (.bool true) ∧ Below w.heap.size w w' := by
  have HP := hid (print_any l la lc w h (by omega))
  have H := hid h
  have HL := hid hl
  clear h hl
  go_enter Try.func4, Try.ntmps4
  go_wp2_with fail
  refine HP.out.mono ?_
  clear HP
  rintro e w1 h1
  obtain ⟨hB1, ⟨er, hE, rfl⟩ | ⟨g, n, hg, rfl, hT⟩⟩ := print_to h1
  · have hne : (er != 0) = true := bne_iff_ne.2 hE.ne
    have HB := hid hB1
    clear h1 hB1 H HL hE
    go_wp2_with fail
    refine (tlive_any w1).mono ?_
    rintro e w2 ⟨rfl, hB2⟩
    have HB2 : Hid (Below w.heap.size w w2) := HB.out.trans (hB2.mono HB.out.size)
    clear hB2 HB
    go_wp2
    go_ret
    exact ⟨rfl, HB2.out⟩
  · have HB := hid hB1
    have HT := hid hT
    clear h1 hB1 hg hT
    go_wp2_with fail
    refine HT.out.parse.mono ?_
    rintro e w2 ⟨hB2, acc, la2, lc2, hac, rfl, hea⟩
    have HB2 : Hid (Below w.heap.size w w2) := HB.out.trans (hB2.mono HB.out.size)
    have HA := hid hac
    have HE := hid hea
    clear hB2 HB HT hac hea
    go_wp2_with fail
    refine (tlive_any w2).mono ?_
    rintro e w3 ⟨rfl, hB3⟩
    have HB3 : Hid (Below w.heap.size w w3) := HB2.out.trans (hB3.mono HB2.out.size)
    have HE3 := hid (HE.out.up hB3)
    clear hB3 HB2 HE
    go_wp2_with fail
    refine (fsameAll_true l acc la la2 lc lc2 w3 (H.out.up HB3.out) HE3.out HA.out.symm (by have := HL.out; omega)).mono ?_
    rintro e w4 ⟨rfl, hB4⟩
    have HB4 : Hid (Below w.heap.size w w4) := HB3.out.trans (hB4.mono HB3.out.size)
    clear hB4 HB3 HE3 HA H HL
    go_wp2
    go_ret
    exact ⟨rfl, HB4.out⟩
end Go.Proofs.Ytdfnhgkabaikaaa
