/- The reference's Read. -/
import Derived.Test.YtoeiodiadanhkaaGreatPlaysPlain
namespace Go.Proofs.YtoeiodiadanhkaaGreat
open Go.RowKit
theorem rread_nil (n : Int) (w : World) : Calls Tryz.prog 50 #[.pointer none, .int .i64 n] w fun e w' => e = .returned (.tuple #[.slice none 0 0, .int .i64 1]) ∧ w' = w := by
  have HL : Hid (Calls Tryz.prog 79 #[.pointer none, .int .i64 n] w fun e w' => e = .returned (.int .i64 1) ∧ w' = w) := by
    show Calls _ _ _ _ _
    go_enter Tryz.func79, Tryz.ntmps79
    go_wp2
    go_ret
    exact ⟨rfl, rfl⟩
  go_enter Tryz.func50, Tryz.ntmps50
  go_wp2_with fail
  refine HL.out.mono ?_
  rintro e w9 ⟨rfl, h9⟩
  obtain rfl := h9.symm
  go_wp2
  go_returns
  exact ⟨rfl, rfl⟩
set_option maxRecDepth 100000 in
theorem rread_no (r : Nat) (fv lv : Value) (vs : List Value) (Rd : Nat → Prop) (R : RefS) (n : Int) (w : World) (h : RefIn w r fv lv vs Rd R) (hn : ¬ (0 ≤ n ∧ n < R.first.length)) :
    Calls Tryz.prog 50 #[.pointer (some ⟨r, 0, none⟩), .int .i64 n] w fun e w' => e = .returned (.tuple #[.slice none 0 0, .int .i64 2]) ∧ w' = w := by
  have hl := look_any r fv lv vs Rd R n w h
  rw [lookR, if_neg hn] at hl
  have HL := hid hl
  clear h hl hn
  go_enter Tryz.func50, Tryz.ntmps50
  go_wp2_with fail
  refine HL.out.mono ?_
  rintro e w9 ⟨rfl, h9⟩
  obtain rfl := h9.symm
  go_wp2
  go_returns
  exact ⟨rfl, rfl⟩
set_option maxRecDepth 100000 in
set_option maxHeartbeats 2000000 in
theorem rread_ok (r : Nat) (fv lv : Value) (vs : List Value) (Rd : Nat → Prop) (R : RefS) (n : Int) (bs : List UInt8) (w : World) (h : RefIn w r fv lv vs Rd R) (hR : okR R) (hm : R.l.length ≤ 1000000) (h0 : 0 ≤ n) (h1 : n < R.first.length) (hbs : (atL R R.l.length)[n.toNat]? = some bs) (h5 : bs.length = 512) :
    Calls Tryz.prog 50 #[.pointer (some ⟨r, 0, none⟩), .int .i64 n] w fun e w' => Below w.heap.size w w' ∧ ∃ g cap, e = .returned (.tuple #[.slice (some ⟨g, 0, none⟩) 512 cap, .int .i64 0]) ∧ bytesIn w' (some ⟨g, 0, none⟩) bs := by
  have hl := look_any r fv lv vs Rd R n w h
  rw [lookR, if_pos ⟨h0, h1⟩] at hl
  have HL := hid hl
  obtain ⟨sa, cap, hlv, hs⟩ := h.slice
  have c1 : w.cell? ⟨r, 1, none⟩ = some (.slice sa R.l.length cap) := by rw [cell_of_block h.heap, ← hlv]; rfl
  have HS := hid hs
  have H := hid h
  have HR := hid hR
  have HBs := hid hbs
  clear h hl hR hs hlv hbs
  go_enter Tryz.func50, Tryz.ntmps50
  go_wp2_with fail
  refine HL.out.mono ?_
  rintro e w9 ⟨rfl, h9⟩
  obtain rfl := h9.symm
  clear HL
  go_wp2
  go_loopw [7] (fun i wr => wr = w ∧ ∃ k : Nat, k ≤ R.l.length ∧ i = .int .i64 ((k : Int) - 1) ∧ Hid ((atL R k)[n.toNat]? = some bs)) (fun i _ => (intOf i + 1).toNat)
  case atStart => exact ⟨rfl, R.l.length, Nat.le_refl _, rfl, HBs⟩
  case round =>
    obtain ⟨rfl, k, hk, rfl, hA⟩ := hrel
    rcases Nat.eq_zero_or_pos k with rfl | hpos
    · have e0 : (((0 : Nat) : Int) - 1) = -1 := by omega
      rw [e0]
      obtain ⟨fa, fc, hfv, hrows, -⟩ := H.out.first
      obtain ⟨fb, fo, rfl, hrow⟩ := hrows n.toNat (by omega)
      obtain ⟨a', c', hcell, hby⟩ := hrow n.toNat (by omega)
      have eb : R.first[n.toNat]'(by omega) = bs := by
        have := hA.out
        rw [show atL R 0 = R.first from rfl, List.getElem?_eq_getElem (by omega)] at this
        exact Option.some.inj this
      rw [eb] at hcell hby
      rw [h5] at hcell
      have HCp := hid (copy_any bs a' c' wr hby (by omega) (by omega))
      rw [h5] at HCp
      have t0 : wr.cell? ⟨r, 0, none⟩ = some (.slice (some ⟨fb, fo, none⟩) R.first.length fc) := by rw [cell_of_block H.out.heap, ← hfv]; rfl
      clear hby hrow hrows hfv eb hA HBs HS
      go_wp2_with fail
      refine HCp.out.mono ?_
      clear HCp
      rintro e w1 ⟨g, cap1, rfl, hb, -, -, hB⟩
      have HB := hid hB
      have Hb := hid hb
      clear hB hb
      go_wp2
      go_returns
      exact ⟨HB.out, _, _, rfl, Hb.out⟩
    · obtain ⟨j, rfl⟩ : ∃ j, k = j + 1 := ⟨k - 1, by omega⟩
      have e0 : (((j + 1 : Nat) : Int) - 1) = (j : Int) := by omega
      rw [e0]
      have hj : j < R.l.length := by omega
      have hj0 : (0 : Int) ≤ (j : Int) := by omega
      have hj1 : (j : Int) < (R.l.length : Int) := by omega
      have hjv : j < vs.length := by rw [← H.out.len]; exact hj
      obtain ⟨g, rfl, q0, q1, q2⟩ := HS.out j hj hjv
      obtain ⟨ab, cb, ev, hby, -⟩ := H.out.bytes j hj hjv
      rw [ev] at q2
      have hAt := hA.out
      rw [atL_succ, List.getElem?_eq_getElem hj] at hAt
      have HAt := hid hAt
      clear hAt hA
      cases hf : R.l[j].flush
      · rw [hf] at q0
        obtain ⟨n0, n1, n5⟩ := HR.out.2.2 R.l[j] (List.getElem_mem hj) hf
        rw [n5] at q2
        have hAt := HAt.out
        simp only [hf, Bool.false_eq_true, if_false] at hAt
        by_cases hn : R.l[j].n = n
        · rw [hn] at q1
          have eb : R.l[j].b = bs := by
            rw [hn, List.getElem?_set_self (by rw [length_atL]; omega)] at hAt
            exact Option.some.inj hAt
          rw [eb] at hby
          have HCp := hid (copy_any bs ab cb wr hby (by omega) (by omega))
          rw [h5] at HCp
          clear hby hAt HAt eb hn n0 n1 n5 ev hf HBs HS
          go_wp2_with fail
          refine HCp.out.mono ?_
          clear HCp
          rintro e w1 ⟨g, cap1, rfl, hb, -, -, hB⟩
          have HB := hid hB
          have Hb := hid hb
          clear hB hb
          go_wp2
          go_returns
          exact ⟨HB.out, _, _, rfl, Hb.out⟩
        · rw [List.getElem?_set_ne (by omega)] at hAt
          have HN := hid hAt
          have hne : (R.l[j].n == n) = false := by rw [beq_eq_false_iff_ne]; exact hn
          generalize R.l[j].n = nn at *
          clear hby hAt HAt n0 n1 n5 ev hf HBs HS q2
          go_wp2
          exact ⟨⟨trivial, j, by omega, by go_num, HN⟩, by simp [intOf]⟩
      · rw [hf] at q0
        have hAt := HAt.out
        simp only [hf, if_true] at hAt
        have HN := hid hAt
        clear hby hAt HAt ev hf HBs HS q2 q1
        go_wp2
        exact ⟨⟨trivial, j, by omega, by go_num, HN⟩, by simp [intOf]⟩
end Go.Proofs.YtoeiodiadanhkaaGreat
