/- AllocFresh: the walk. -/
import Derived.Test.YtkkmbgjlmdddoaaGreatAFreshP
namespace Go.Proofs.YtkkmbgjlmdddoaaGreat
open Go.RowKit
set_option maxRecDepth 100000 in
set_option maxHeartbeats 4000000 in
theorem allocFresh_walk (x : UInt8) (n : Int) (hn0 : 0 ≤ n) (hn1 : n < 256) (w : World) : Calls Tryz.prog 6 #[.int .u8 (x.toNat : Int), .int .u8 n] w fun e w' => e = .returned (.bool true) ∧ Below w.heap.size w w' := by
  have hma := made_at 60 8 1 (fun _ => zN 512)
  have hdk := dkD_putLD 60 (empK 60 8 1) (fun _ => false)
  rw [dkD_none, length_empK, List.length_nil] at hdk
  have HMa := hid hma
  have HDk := hid hdk
  clear hma hdk
  go_enter Tryz.func6, Tryz.ntmps6
  go_wp2_with fail
  refine (cached_any 60 50 (by omega) (by omega) (by omega) w).mono ?_
  rintro e w1 ⟨c, F, rfl, hF, hp1, hb1⟩
  have HF := hid hF
  have HB1 := hid hb1
  have HMk := hid (amake_any 8 hp1)
  clear hF hp1 hb1
  go_wp2_with fail
  refine HMk.out.mono ?_
  clear HMk
  rintro e w2 ⟨hk2, hx⟩
  have hmay : mayP 60 8 := by decide
  rcases hx with ⟨h, -⟩ | ⟨k0, hn, -, hx⟩
  · exact absurd hmay h
  obtain rfl : k0 = 8 := by omega
  rcases hx with ⟨h, -⟩ | ⟨-, m, hm, hmF, hmb, rfl, hp2⟩
  · rw [dkD_none] at h; exact absurd h (by decide)
  have HFr2 : Hid (Below w.heap.size w w2) := HB1.out.trans (hk2.below HB1.out.size HF.out)
  have HP2 := hid hp2
  have HM2 := hid hmb
  have HmF := hid hmF
  clear hk2 hmb hp2 hmay hn hm hmF
  obtain ⟨Pg, hPg⟩ : ∃ Pg, Pg = putL (fun _ => zN 512) (empK 60 8 (8 / 8)) := ⟨_, rfl⟩
  have HPg2 : Hid (Pg 2 = bitsTo 4) := by rw [hPg]; exact HMa.out.2.2
  rw [← hPg] at HP2
  clear hPg HMa
  go_wp2_with fail
  refine (l5live_any w2).mono ?_
  rintro e w3 ⟨rfl, hb3⟩
  have HC3 := hid ((show FrAt w w3 c m Pg 4 from ⟨HFr2.out.trans (hb3.mono HFr2.out.size), F, _, _, 0, 0, HF.out, HmF.out, HM2.out.below hb3, HP2.out.below hb3, HDk.out, by omega⟩).commit ⟨F, _, _, 0, 0, HF.out, HmF.out, HM2.out.below hb3, HP2.out.below hb3, by omega, by omega⟩)
  clear hb3 HFr2 HP2 HM2
  go_wp2_with fail
  refine HC3.out.mono ?_
  clear HC3
  rintro e w4 ⟨rfl, hf4⟩
  have HF4 := hid hf4
  clear hf4
  go_wp2
  obtain ⟨J, hJ⟩ : ∃ J : Nat, J = (n % 20).toNat + 1 := ⟨_, rfl⟩
  have hJn : (J : Int) = n % 20 + 1 := by omega
  have hJ20 : J ≤ 20 := by omega
  have hJ1 : 1 ≤ J := by omega
  clear hJ
  go_loopw [8, 9] (fun kv jv wr => ∃ (j k0 : Nat) (Pg' : Nat → List UInt8), j ≤ J ∧ kv = .int .i64 k0 ∧ jv = .int .i64 j ∧ (0 < j → k0 = 3 + j) ∧ Hid (Pg' 2 = bitsTo (4 + j)) ∧ Hid (FrAt w wr c m Pg' (4 + 2 * j))) (fun _ jv _ => J - (intOf jv).toNat)
  case atStart => exact ⟨0, 0, Pg, by omega, rfl, rfl, fun h => by omega, HPg2, HF4⟩
  case round =>
    obtain ⟨j, k0, Pg', hj, rfl, rfl, hk0, HPj, HFj⟩ := hrel
    clear HF4 HPg2 Pg
    by_cases hlt : j < J
    · have hlt' : (j : Int) ≤ n % 20 := by omega
      have HPa := hid (HFj.out.page (4 + j) HPj.out (by omega) (by omega) (by omega))
      obtain ⟨t, ht⟩ : ∃ t, t = 4 + j := ⟨_, rfl⟩
      rw [← ht] at HPa
      have HT := hid ht
      clear ht
      go_wp2_with fail
      refine HPa.out.mono ?_
      clear HPa
      rintro e w5 ⟨rfl, hf5⟩
      have HF5 := hid hf5
      clear hf5
      go_wp2
      have ht := HT.out
      refine ⟨⟨j + 1, t, _, by omega, rfl, by go_num, fun _ => by omega, ?_, HF5⟩, by simp [intOf]; omega⟩
      subst ht
      show (if 2 = 4 + j then _ else _) = _
      rw [if_neg (by omega)]
      rfl
    · obtain rfl : j = J := by omega
      have hge : ¬ ((j : Int) ≤ n % 20) := by omega
      have HFd := hid (show ∃ d, d ≤ 44 ∧ FrAt w wr c m Pg' d from ⟨_, by omega, HFj.out⟩)
      have HK := hid (show k0 = 3 + j ∧ 4 ≤ k0 ∧ k0 < 24 by have := hk0 (by omega); omega)
      have HPk : Hid (Pg' 2 = bitsTo (k0 + 1)) := by rw [HK.out.1]; exact (by have := HPj.out; rw [show 3 + j + 1 = 4 + j by omega]; exact this)
      have HG := hid hge
      clear hk0 HFj HPj hJn hge hlt
      have hge : ¬ ((j : Int) ≤ n % 20) := HG.out
      obtain ⟨d, hd, hf⟩ := HFd.out
      have HF6 := hid hf
      have HD6 := hid hd
      clear HFd hf hd
      go_wp2_with (refine wpList_make_u8 rfl (.const (.int .i64 512)) (.const (.int .i64 512)) rfl 512 512 rfl rfl rfl (by omega) ?_; intro w7 hb7 hr7 hz7; have HB7 := hid hb7; have HR7 : Hid (ownB w7 wr.heap.size (zN 512)) := (by unfold Hid ownB; rw [hr7, rep_U8]); clear hb7 hr7 hz7)
      obtain ⟨wE, rfl⟩ : ∃ wE, wE = wr := ⟨_, rfl⟩
      obtain ⟨g, hg⟩ : ∃ g, g = wE.heap.size := ⟨_, rfl⟩
      have HR8 : Hid (rowU w7 g (zN 512)) := by rw [hg]; exact rowU_own HR7.out
      have HB8 : Hid (Below g wE w7) := by rw [hg]; exact HB7.out
      rw [← hg]
      have HGs := hid hg
      clear hg HR7 HB7
      go_loopw [11] (fun iv W => ∃ (i : Nat) (l : List UInt8), i ≤ 512 ∧ iv = .int .i64 i ∧ l.length = 512 ∧ Hid (rowU W g l) ∧ Hid (Below g wE W)) (fun iv _ => 512 - (intOf iv).toNat)
      case atStart => exact ⟨0, _, by omega, rfl, length_zN5, HR8, HB8⟩
      case round =>
        obtain ⟨i, l, hi, rfl, hl, HRi, HBi⟩ := hrel
        clear HR8 HB8
        by_cases hlt : i < 512
        · have hlt' : (i : Int) < 512 := by omega
          have hi0 : (0 : Int) ≤ (i : Int) := by omega
          have c0 := HRi.out.cell i (by omega)
          have f0 := HRi.out.frozen i (by omega)
          have HSt := hid (HRi.out.set i (by omega) x)
          go_wp2
          refine ⟨⟨i + 1, _, by omega, by go_num, by rw [List.length_set]; exact hl, HSt, ?_⟩, by simp [intOf]; omega⟩
          exact HBi.out.setCell (show g ≤ Addr.block ⟨g, i, none⟩ from Nat.le_refl g) _
        · obtain rfl : i = 512 := by omega
          have HFw := hid (HF6.out.below (by have := HBi.out; rw [HGs.out] at this; exact this))
          have hk4 := HK.out
          have HWr := hid (HFw.out.write k0 (by omega) (by have := HD6.out; omega) l hl ⟨g, 0, none⟩ 512 HRi.out.1)
          clear hk4
          go_wp2_with fail
          refine HWr.out.mono ?_
          clear HWr
          rintro e w8 ⟨rfl, hf8⟩
          have HGv := hid (hf8.give k0 (by show (if 2 = k0 then _ else _) = _; rw [if_neg (by have := HK.out; omega)]; exact HPk.out) HK.out.2.1 (by have := HK.out; omega) (by have := HD6.out; omega))
          clear hf8
          go_wp2_with fail
          refine HGv.out.mono ?_
          clear HGv
          rintro e w9 ⟨rfl, hf9⟩
          have HPp := hid (hf9.page k0 rfl HK.out.2.1 (by have := HK.out; omega) (by have := HD6.out; omega))
          clear hf9
          go_wp2_with fail
          refine HPp.out.mono ?_
          clear HPp
          rintro e w10 ⟨rfl, hf10⟩
          have HRd := hid (hf10.read k0 (by have := HK.out; omega) (by have := HD6.out; omega))
          clear hf10
          go_wp2_with fail
          refine HRd.out.mono ?_
          clear HRd
          rintro e w11 ⟨g2, cap2, rfl, hr11, hf11⟩
          have HR11 : Hid (rowU w11 g2 (zN 512)) := by
            have h1 := hr11
            rw [show updP (updP (updP (updP Pg' k0 l) 2 (bitsTo k0)) 2 (bitsTo (k0 + 1))) k0 (zN 512) k0 = zN 512 from if_pos rfl] at h1
            exact h1
          have HB11 := hid hf11.1
          clear hf11 hr11
          go_wp2
          go_loopw [16] (fun iv W => ∃ i : Nat, i ≤ 512 ∧ iv = .int .i64 i ∧ W = w11) (fun iv _ => 512 - (intOf iv).toNat)
          case atStart => exact ⟨0, by omega, rfl, rfl⟩
          case round =>
            obtain ⟨i, hi, rfl, rfl⟩ := hrel
            by_cases hlt : i < 512
            · have hlt' : (i : Int) < 512 := by omega
              have hi0 : (0 : Int) ≤ (i : Int) := by omega
              have c0 : wr.cell? ⟨g2, i, none⟩ = some (.int .u8 0) := by
                have := HR11.out.cell i (by rw [length_zN5]; exact hlt)
                rw [this]
                unfold zN
                rw [List.getElem_replicate]; rfl
              go_wp2
              exact ⟨⟨i + 1, by omega, by go_num, trivial⟩, by simp [intOf]; omega⟩
            · obtain rfl : i = 512 := by omega
              go_wp2
              go_ret
              exact ⟨rfl, HB11.out⟩
end Go.Proofs.YtkkmbgjlmdddoaaGreat
