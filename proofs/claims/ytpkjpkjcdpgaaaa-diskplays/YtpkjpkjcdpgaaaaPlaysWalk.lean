/- The walk of DiskPlays. -/
import Derived.Test.YtpkjpkjcdpgaaaaPlayNo
import Derived.Test.YtpkjpkjcdpgaaaaRRead
import Derived.Test.YtpkjpkjcdpgaaaaSameRef
namespace Go.Proofs.Ytpkjpkjcdpgaaaa
open Go.RowKit
/-- same(nil, nil). -/
theorem same_nils (w : World) : Calls Try.prog 14 #[.pointer none, .pointer none] w fun e w' => e = .returned (.bool true) ∧ Below w.heap.size w w' := by
  have hsi := fun W => same_ints [] [] none none 0 0 W (fun j hj => absurd hj (by simp)) (fun j hj => absurd hj (by simp)) (by simp)
  simp only [decide_eq_true, List.length_nil] at hsi
  have hsa := fun W => same_all [] [] none none 0 0 W (fun j hj => absurd hj (by simp)) (fun j hj => absurd hj (by simp)) (by simp) (by simp)
  simp only [decide_eq_true, List.length_nil] at hsa
  have HSi := hid hsi
  have HSa := hid hsa
  clear hsi hsa
  go_enter Try.func14, Try.ntmps14
  go_wp2_with fail
  refine (waiting_nil _).mono ?_
  rintro e w9 ⟨rfl, h9⟩
  obtain rfl := h9.symm
  go_wp2_with fail
  refine (rwaiting_nil _).mono ?_
  rintro e w9 ⟨rfl, h9⟩
  obtain rfl := h9.symm
  go_wp2_with fail
  refine (HSi.out _).mono ?_
  rintro e w1 ⟨rfl, hB1⟩
  have HB1 := hid hB1
  clear hB1
  go_wp2_with fail
  refine (HSi.out _).mono ?_
  rintro e w2 ⟨rfl, hB2⟩
  have HB2 := hid (HB1.out.trans (hB2.mono HB1.out.size))
  clear hB2 HB1
  go_wp2_with fail
  refine (ops_nil _).mono ?_
  rintro e w9 ⟨rfl, h9⟩
  obtain rfl := h9.symm
  go_wp2_with fail
  refine (rops_nil _).mono ?_
  rintro e w9 ⟨rfl, h9⟩
  obtain rfl := h9.symm
  go_wp2_with fail
  refine (sectors_nil _).mono ?_
  rintro e w9 ⟨rfl, h9⟩
  obtain rfl := h9.symm
  go_wp2_with fail
  refine (rsectors_nil _).mono ?_
  rintro e w9 ⟨rfl, h9⟩
  obtain rfl := h9.symm
  go_wp2_with fail
  refine (image_nil _).mono ?_
  rintro e w9 ⟨rfl, h9⟩
  obtain rfl := h9.symm
  go_wp2_with fail
  refine (rimage_nil _).mono ?_
  rintro e w9 ⟨rfl, h9⟩
  obtain rfl := h9.symm
  go_wp2_with fail
  refine (HSa.out _).mono ?_
  rintro e w3 ⟨rfl, hB3⟩
  have HB3 := hid (HB2.out.trans (hB3.mono HB2.out.size))
  clear hB3 HB2
  go_wp2_with fail
  refine (safe_nil _).mono ?_
  rintro e w9 ⟨rfl, h9⟩
  obtain rfl := h9.symm
  go_wp2_with fail
  refine (rsafe_nil _).mono ?_
  rintro e w9 ⟨rfl, h9⟩
  obtain rfl := h9.symm
  go_wp2_with fail
  refine (HSa.out _).mono ?_
  rintro e w4 ⟨rfl, hB4⟩
  have HB4 := hid (HB3.out.trans (hB4.mono HB3.out.size))
  clear hB4 HB3
  go_wp2
  go_ret
  exact ⟨rfl, HB4.out⟩
theorem plays_case (n : Int) : (∃ m : Nat, 1 ≤ m ∧ m ≤ 4096 ∧ ((20 < n ∧ n ≤ 4096 ∧ n % 20 + 1 = m) ∨ (¬ 20 < n ∧ n = m))) ∨ (¬ (1 ≤ n ∧ n ≤ 4096) ∧ (¬ 20 < n ∨ (20 < n ∧ ¬ n ≤ 4096))) := by
  by_cases h1 : 1 ≤ n ∧ n ≤ 4096
  · left
    by_cases h2 : 20 < n
    · exact ⟨(n % 20 + 1).toNat, by omega, by omega, .inl ⟨h2, h1.2, by omega⟩⟩
    · exact ⟨n.toNat, by omega, by omega, .inr ⟨h2, by omega⟩⟩
  · right
    exact ⟨h1, by omega⟩
set_option maxRecDepth 100000 in
set_option maxHeartbeats 4000000 in
theorem plays_walk (n : Int) (ds : List DeedS) (a : Option Addr) (c : Nat) (hlen : ds.length ≤ 9223372036854775807) (at' : Int) (w : World) (hds : deedsAt w a ds) :
    Calls Try.prog 3 #[.int .i64 n, .slice a ds.length c, .int .i64 at'] w fun e w' => e = .returned (.bool true) ∧ Below w.heap.size w w' := by
  rcases plays_case n with ⟨m, hm1, hm2, hcase⟩ | ⟨hno, hcase⟩
  · have HPl := hid (play_any m hm1 hm2 ds a c hlen w hds)
    have HAl := hid (alike_play m hm2 ds (min ds.length 40) (by omega))
    have HSz := hid (play_sizes m ds (min ds.length 40) (by omega))
    have HOk := hid (ok_play m ds (min ds.length 40) (by omega))
    clear hds
    generalize playS m ds (min ds.length 40) = S at *
    generalize playR m ds (min ds.length 40) = R at *
    rcases hcase with ⟨h2, h3, h4⟩ | ⟨h2, h4⟩
    all_goals
      go_enter Try.func3, Try.ntmps3
      go_wp2_with fail
      refine HPl.out.mono ?_
      clear HPl
      rintro e w1 ⟨d, r, rfl, fv, lv, vs, Rd, hP⟩
      have HB1 := hid hP.below
      have HP := hid hP
      clear hP h2 h4
      try clear h3
      go_wp2_with fail
      refine (live_any w1).mono ?_
      rintro e w2 ⟨rfl, hB2⟩
      have HB2 := hid (HB1.out.trans (hB2.mono HB1.out.size))
      have HP2 := hid (HP.out.grow hB2)
      clear hB2 HB1 HP
      have hRm : R.l.length ≤ 1000000 := by have := HSz.out.2.2.2; omega
      by_cases hat : 0 ≤ at' ∧ at' < S.safe.length
      · obtain ⟨k, rfl⟩ : ∃ k : Nat, at' = (k : Int) := ⟨at'.toNat, by omega⟩
        have hkS : k < S.safe.length := by omega
        have hkR : k < R.first.length := by rw [← HAl.out.len]; exact hkS
        have hlen5 : (seenS S.safe S.waits (k : Int)).size = 512 := ok_seen HOk.out k hkS
        have HRd := hid (read_ok d S (k : Int) w2 HP2.out.D hat.1 hat.2)
        have HRr := hid (fun W (hW : Below w2.heap.size w2 W) => rread_ok r fv lv vs Rd R (k : Int) (seenS S.safe S.waits (k : Int)).data.toList W (HP2.out.Rf.below hW) HAl.out.ok hRm hat.1 (by omega) (by rw [Int.toNat_natCast]; exact HAl.out.read k hkR) (by simpa using hlen5))
        have hll : (seenS S.safe S.waits (k : Int)).data.toList.length = 512 := by simpa using hlen5
        rw [hlen5] at HRd
        generalize (seenS S.safe S.waits (k : Int)).data.toList = bs at *
        clear hlen5
        go_wp2_with fail
        refine HRd.out.mono ?_
        clear HRd
        rintro e w3 ⟨b3, c3, rfl, hb3, hby3, hB3⟩
        have HB3 := hid (HB2.out.trans (hB3.mono HB2.out.size))
        have HP3 := hid (HP2.out.grow hB3)
        have HRr3 := hid (HRr.out w3 hB3)
        have HBy3 := hid (bytesIn_of_at hby3)
        clear hby3 hB3 HRr HP2 HB2
        go_wp2_with fail
        refine HRr3.out.mono ?_
        clear HRr3
        rintro e w4 ⟨hB4, g4, c4, rfl, hby4⟩
        have HB4 := hid (HB3.out.trans (hB4.mono HB3.out.size))
        have HP4 := hid (HP3.out.grow hB4)
        have hsb := same_bytes bs bs (some ⟨b3, 0, none⟩) (some ⟨g4, 0, none⟩) c3 c4 w4 (HBy3.out.below hB4) hby4 (by omega)
        rw [decide_eq_true rfl, hll] at hsb
        have HSb := hid hsb
        clear hsb hby4 hB4 HBy3 HP3 HB3
        go_wp2_with fail
        refine HSb.out.mono ?_
        clear HSb
        rintro e w5 ⟨rfl, hB5⟩
        have HB5 := hid (HB4.out.trans (hB5.mono HB4.out.size))
        have HSr := hid (same_ref d S r fv lv vs Rd R w5 (HP4.out.D.below hB5).rd (HP4.out.Rf.below hB5) HAl.out hRm)
        clear hB5 HP4 HB4
        go_wp2_with fail
        refine HSr.out.mono ?_
        clear HSr
        rintro e w6 ⟨rfl, hB6⟩
        have HB6 := hid (HB5.out.trans (hB6.mono HB5.out.size))
        clear hB6 HB5
        go_wp2
        go_ret
        exact ⟨rfl, HB6.out⟩
      · have HRd := hid (read_no d S at' w2 HP2.out.D hat)
        have HRr := hid (rread_no r fv lv vs Rd R at' w2 HP2.out.Rf (by rw [← HAl.out.len]; exact hat))
        have hsi := same_bytes [] [] none none 0 0 w2 (fun j hj => absurd hj (by simp)) (fun j hj => absurd hj (by simp)) (by simp)
        simp only [decide_eq_true, List.length_nil] at hsi
        have HSi := hid hsi
        clear hat hsi
        go_wp2_with fail
        refine HRd.out.mono ?_
        clear HRd
        rintro e w9 ⟨rfl, h9⟩
        obtain rfl := h9.symm
        go_wp2_with fail
        refine HRr.out.mono ?_
        clear HRr
        rintro e w9 ⟨rfl, h9⟩
        obtain rfl := h9.symm
        go_wp2_with fail
        refine HSi.out.mono ?_
        clear HSi
        rintro e w5 ⟨rfl, hB5⟩
        have HB5 := hid (HB2.out.trans (hB5.mono HB2.out.size))
        have HSr := hid (same_ref d S r fv lv vs Rd R w5 (HP2.out.D.below hB5).rd (HP2.out.Rf.below hB5) HAl.out hRm)
        clear hB5 HP2 HB2
        go_wp2_with fail
        refine HSr.out.mono ?_
        clear HSr
        rintro e w6 ⟨rfl, hB6⟩
        have HB6 := hid (HB5.out.trans (hB6.mono HB5.out.size))
        clear hB6 HB5
        go_wp2
        go_ret
        exact ⟨rfl, HB6.out⟩
  · have HPl := hid (play_no n hno ds a c hlen w hds)
    have hsi := fun W => same_bytes [] [] none none 0 0 W (fun j hj => absurd hj (by simp)) (fun j hj => absurd hj (by simp)) (by simp)
    simp only [decide_eq_true, List.length_nil] at hsi
    have HSi := hid hsi
    clear hds hno hsi
    rcases hcase with h2 | ⟨h2, h3⟩
    all_goals
      go_enter Try.func3, Try.ntmps3
      go_wp2_with fail
      refine HPl.out.mono ?_
      clear HPl
      rintro e w1 ⟨rfl, hB1⟩
      have HB1 := hid hB1
      clear hB1 h2
      go_wp2_with fail
      refine (live_any w1).mono ?_
      rintro e w2 ⟨rfl, hB2⟩
      have HB2 := hid (HB1.out.trans (hB2.mono HB1.out.size))
      clear hB2 HB1
      go_wp2_with fail
      refine (read_nil _ _).mono ?_
      rintro e w9 ⟨rfl, h9⟩
      obtain rfl := h9.symm
      go_wp2_with fail
      refine (rread_nil _ _).mono ?_
      rintro e w9 ⟨rfl, h9⟩
      obtain rfl := h9.symm
      go_wp2_with fail
      refine (HSi.out _).mono ?_
      rintro e w5 ⟨rfl, hB5⟩
      have HB5 := hid (HB2.out.trans (hB5.mono HB2.out.size))
      clear hB5 HB2
      go_wp2_with fail
      refine (same_nils _).mono ?_
      rintro e w6 ⟨rfl, hB6⟩
      have HB6 := hid (HB5.out.trans (hB6.mono HB5.out.size))
      clear hB6 HB5
      go_wp2
      go_ret
      exact ⟨rfl, HB6.out⟩
end Go.Proofs.Ytpkjpkjcdpgaaaa
