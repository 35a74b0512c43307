/- AllocBack: the walk. -/
import Derived.Test.YtkkmbgjlmdddoaaGreatABackW
namespace Go.Proofs.YtkkmbgjlmdddoaaGreat
open Go.RowKit
set_option maxRecDepth 100000 in
set_option maxHeartbeats 4000000 in
theorem allocBack_walk (n k : Int) (hn0 : 0 ≤ n) (hn1 : n < 256) (hk0 : 0 ≤ k) (hk1 : k < 256) (w : World) : Calls Tryz.prog 5 #[.int .u8 n, .int .u8 k] w fun e w' => e = .returned (.bool true) ∧ Below w.heap.size w w' := by
  have HMa := hid (made_at 120 24 3 (fun _ => zN 512))
  go_enter Tryz.func5, Tryz.ntmps5
  go_wp2_with fail
  refine (cached_any 120 110 (by omega) (by omega) (by omega) w).mono ?_
  rintro e w1 ⟨c, F, rfl, hF, hp1, hb1⟩
  have HF := hid hF
  have HB1 := hid hb1
  have HMk := hid (amake_any 24 hp1)
  clear hF hp1 hb1
  go_wp2_with fail
  refine HMk.out.mono ?_
  clear HMk
  rintro e w2 ⟨hk2, hx⟩
  have hmay : mayP 120 24 := by decide
  rcases hx with ⟨h, -⟩ | ⟨k0, hn, -, hx⟩
  · exact absurd hmay h
  obtain rfl : k0 = 24 := by omega
  rcases hx with ⟨h, -⟩ | ⟨-, m, hm, hmF, hmb, rfl, hp2⟩
  · rw [dkD_none] at h; exact absurd h (by decide)
  have hB2 : Below w.heap.size w w2 := HB1.out.trans (hk2.below HB1.out.size HF.out)
  have hbk : BkAt w w2 c m F 1 1 6 6 false 0 := ⟨_, _, _, _, _, hB2, HF.out, hmF, hmb, hp2, by rw [show putL (fun _ => zN 512) (empK 120 24 (24 / 8)) 1 = bitsTo 1 from HMa.out.2.1]; exact BitsIn.start 1 (by omega), by rw [show putL (fun _ => zN 512) (empK 120 24 (24 / 8)) 2 = bitsTo 6 from HMa.out.2.2]; exact BitsIn.start 6 (by omega), ⟨by omega, by omega, by omega⟩, ⟨by omega, by omega, by omega⟩, (fun h => absurd h (by decide)), by omega, by omega⟩
  have HBk := hid hbk
  clear hk2 hmb hp2 hmay hn hm hmF hbk hB2 HMa
  go_wp2_with fail
  refine (l5live_any w2).mono ?_
  rintro e w3 ⟨rfl, hb3⟩
  have HC3 := hid ((HBk.out.below hb3).commit (by omega))
  clear hb3 HBk
  go_wp2_with fail
  refine HC3.out.mono ?_
  clear HC3
  rintro e w4 ⟨rfl, -, F2, -, hb4⟩
  have HFr := hid (hb4.free (by omega))
  clear hb4 HF F
  go_wp2_with fail
  refine HFr.out.mono ?_
  clear HFr
  rintro e w5 ⟨rfl, -, hb5⟩
  have HB5 := hid hb5
  clear hb5
  go_wp2_with (refine wpList_make_bls rfl (.const (.int .i64 200)) (.const (.int .i64 200)) rfl 200 rfl rfl (by omega) ?_; intro w6 hb6 hr6 hz6; have HB6 := hid hb6; have HR6 := hid hr6; clear hb6 hr6 hz6)
  obtain ⟨sg, hsg⟩ : ∃ sg, sg = w5.heap.size := ⟨_, rfl⟩
  rw [← hsg] at HR6 ⊢
  have HW6 : Hid (Bw w w6 c m sg (.slice none 0 0) (.slice none 0 0) [] [] (seenB 0) 1 1 6 6 true 2) := ⟨F2, HB5.out.below HB6.out, rowN_nil _ _, rowN_nil _ _, HR6.out, by rw [hsg]; exact HB5.out.size, fun hf => by have := HB5.out.lt _ hf; omega, (fun j hj => by cases hj), (fun j hj => by cases hj), (fun j hj => by cases hj)⟩
  clear hsg HB5 HB6 HR6
  obtain ⟨J, hJ⟩ : ∃ J : Nat, J = (n % 60).toNat := ⟨_, rfl⟩
  have HJn : Hid ((J : Int) = n % 60) := by rw [Hid]; omega
  have hJ60 : J < 60 := by omega
  clear hJ
  go_loopw [11, 13] (fun pv jv wr => ∃ (j : Nat) (pa : Option Addr) (cap : Nat), j ≤ J ∧ pv = .slice pa j cap ∧ jv = .int .i64 j ∧ Hid (Bw w wr c m sg (.slice pa j cap) (.slice none 0 0) (stretch 6 j) [] (seenB j) 1 1 6 (6 + j) true (2 + 3 * j))) (fun _ jv _ => J - (intOf jv).toNat)
  case atStart => exact ⟨0, none, 0, by omega, rfl, rfl, HW6⟩
  case round =>
    obtain ⟨j, pa, cap, hj, rfl, rfl, HW⟩ := hrel
    clear HW6
    by_cases hlt : j < J
    · have hlt' : (j : Int) < n % 60 := by have := HJn.out; omega
      obtain ⟨q, hq⟩ : ∃ q, q = 6 + j := ⟨_, rfl⟩
      have HPa := hid (HW.out.call (fun F h => h.page (by omega) (by omega)))
      rw [← hq] at HPa
      have HQ := hid hq
      have hq0 : (0 : Int) ≤ (q : Int) := by omega
      have hq2 : (q : Int) < 200 := by omega
      have hq6 : ¬ ((q : Int) < 6) := by omega
      clear HW hq
      go_wp2_with fail
      refine HPa.out.mono ?_
      clear HPa
      rintro e w7 ⟨rfl, hw7⟩
      have HW7 := hid hw7
      obtain ⟨F7, hi7⟩ := hw7
      have c0 : w7.cell? ⟨sg, q, none⟩ = some (.bool false) := by
        rw [hi7.s.cell q (by rw [length_seenB]; have := HQ.out; omega), seenB_at j q _ (by have := HQ.out; omega)]
      have f0 : w7.frozen? ⟨sg, q, none⟩ = false := frozen_of_block hi7.s _
      have HFi := hid hi7.bk.first
      clear hi7
      go_wp2_with fail
      refine HFi.out.mono ?_
      clear HFi
      rintro e w8 ⟨rfl, h8⟩
      obtain rfl := h8.symm
      clear h8
      have hal : Below (w7.setCell ⟨sg, q, none⟩ (.bool true)).heap.size (w7.setCell ⟨sg, q, none⟩ (.bool true)) ((w7.setCell ⟨sg, q, none⟩ (.bool true)).alloc (.cells #[.int .i64 q] 3)) := (Below.refl _ _).alloc (Nat.le_refl _) _
      have hcq := cell_of_block (block_new (w7.setCell ⟨sg, q, none⟩ (.bool true)) (.cells #[.int .i64 q] 3)) 0
      have hsz7 : (w7.setCell ⟨sg, q, none⟩ (.bool true)).heap.size = w7.heap.size := by simp
      rw [hsz7] at hcq
      have HCq : Hid (((w7.setCell ⟨sg, q, none⟩ (.bool true)).alloc (.cells #[.int .i64 q] 3)).cell? ⟨w7.heap.size, 0, none⟩ = some (.int .i64 q)) := hcq
      have HW8 := hid ((HW7.out.seen q).below hal)
      have HPr : Hid (rowN ((w7.setCell ⟨sg, q, none⟩ (.bool true)).alloc (.cells #[.int .i64 q] 3)) w.heap.size (.slice pa j cap) (stretch 6 j)) := by obtain ⟨F8, h8⟩ := HW8.out; exact h8.p
      have HSz : Hid (w.heap.size ≤ ((w7.setCell ⟨sg, q, none⟩ (.bool true)).alloc (.cells #[.int .i64 q] 3)).heap.size) := by obtain ⟨F8, h8⟩ := HW8.out; exact h8.bk.size
      clear hal hcq hsz7 HW7
      go_wp2_with (refine wpList_append_int rfl (.tmp 77) (.tmp 79) rfl rfl q w7.heap.size 1 rfl HPr.out HCq.out (by rw [length_stretch]; omega) HSz.out ?_; intro g9 cap9 w9 hr9 hg9 hat9; have HW9 := hid (HW8.out.appP hr9 hg9 hat9); clear hr9 hg9 hat9; rw [length_stretch] at HW9; rw [length_stretch])
      have HFr := hid (HW9.out.call (fun F h => h.free (by omega)))
      obtain ⟨A, hA⟩ : ∃ A, A = 114 - (q + 1 - 6) := ⟨_, rfl⟩
      rw [← hA] at HFr
      have hAj : (A : Int) + ((j : Int) + 1) = 114 := by have := HQ.out; omega
      have HAj := hid hAj
      clear hA HW8 HPr HCq HSz HW9 c0 f0 hAj
      go_wp2_with fail
      refine HFr.out.mono ?_
      clear HFr
      rintro e w10 ⟨rfl, hw10⟩
      have HCo := hid (hw10.commit (by omega))
      clear hw10
      have hAj := HAj.out
      have hA0 : (0 : Int) ≤ (A : Int) := by omega
      have hA1 : (A : Int) ≤ 114 := by omega
      go_wp2_with fail
      refine HCo.out.mono ?_
      clear HCo
      rintro e w11 ⟨rfl, hw11⟩
      have HW11 : Hid (Bw w w11 c m sg (.slice (some ⟨g9, 0, none⟩) (j + 1) cap9) (.slice none 0 0) (stretch 6 (j + 1)) [] (seenB (j + 1)) 1 1 6 (6 + (j + 1)) true (2 + 3 * (j + 1))) := by
        rw [stretch_succ, seenB, ← HQ.out]
        have e1 : 6 + (j + 1) = q + 1 := by have := HQ.out; omega
        rw [e1]
        have e2 : 2 + 3 * (j + 1) = 2 + 3 * j + 1 + 1 + 1 := by omega
        rw [e2]
        exact hw11
      clear hw11
      go_wp2
      exact ⟨⟨j + 1, some ⟨g9, 0, none⟩, cap9, by omega, rfl, by go_num, HW11⟩, by simp [intOf]; omega⟩
    · obtain rfl : j = J := by omega
      have hge : ¬ ((j : Int) < n % 60) := by have := HJn.out; omega
      obtain ⟨K, hK⟩ : ∃ K : Nat, K = (k % 20).toNat := ⟨_, rfl⟩
      have HKn : Hid ((K : Int) = k % 20) := by rw [Hid]; omega
      have hK20 : K < 20 := by omega
      have HW2 : Hid (Bw w wr c m sg (.slice pa j cap) (.slice none 0 0) (stretch 6 j) [] (seenB j) 1 1 6 (6 + j) true 200) := HW.out.more (by omega)
      clear hK HW hlt hj
      go_wp2
      go_loopw [12, 18] (fun iv jv wr => ∃ (i : Nat) (ia : Option Addr) (icap : Nat), i ≤ K ∧ iv = .slice ia i icap ∧ jv = .int .i64 i ∧ Hid (Bw w wr c m sg (.slice pa j cap) (.slice ia i icap) (stretch 6 j) (stretch 1 i) (seenB j) 1 (1 + i) 6 (6 + j) true (200 + i))) (fun _ jv _ => K - (intOf jv).toNat)
      case atStart => exact ⟨0, none, 0, by omega, rfl, rfl, HW2⟩
      case round =>
        obtain ⟨i, ia, icap, hi, rfl, rfl, HWi⟩ := hrel
        clear HW2
        by_cases hlt : i < K
        · have hlt' : (i : Int) < k % 20 := by have := HKn.out; omega
          obtain ⟨q, hq⟩ : ∃ q, q = 1 + i := ⟨_, rfl⟩
          have HIn := hid (HWi.out.call (fun F h => h.inode (by omega) (by omega)))
          rw [← hq] at HIn
          have HQ := hid hq
          have hq1 : ¬ ((q : Int) < 1) := by omega
          clear HWi hq
          go_wp2_with fail
          refine HIn.out.mono ?_
          clear HIn
          rintro e w7 ⟨rfl, hw7⟩
          have hal : Below w7.heap.size w7 (w7.alloc (.cells #[.int .i64 q] 3)) := (Below.refl _ _).alloc (Nat.le_refl _) _
          have HCq : Hid ((w7.alloc (.cells #[.int .i64 q] 3)).cell? ⟨w7.heap.size, 0, none⟩ = some (.int .i64 q)) := cell_of_block (block_new w7 (.cells #[.int .i64 q] 3)) 0
          have HW8 := hid (hw7.below hal)
          have HPr : Hid (rowN (w7.alloc (.cells #[.int .i64 q] 3)) w.heap.size (.slice ia i icap) (stretch 1 i)) := by obtain ⟨F8, h8⟩ := HW8.out; exact h8.i
          have HSz : Hid (w.heap.size ≤ (w7.alloc (.cells #[.int .i64 q] 3)).heap.size) := by obtain ⟨F8, h8⟩ := HW8.out; exact h8.bk.size
          clear hal hw7
          go_wp2_with (refine wpList_append_int rfl (.tmp 115) (.tmp 117) rfl rfl q w7.heap.size 1 rfl HPr.out HCq.out (by rw [length_stretch]; omega) HSz.out ?_; intro g9 cap9 w9 hr9 hg9 hat9; have HW9 := hid (HW8.out.appI hr9 hg9 hat9); clear hr9 hg9 hat9; rw [length_stretch] at HW9; rw [length_stretch])
          refine ⟨⟨i + 1, some ⟨g9, 0, none⟩, cap9, by omega, rfl, by go_num, ?_⟩, by simp [intOf]; omega⟩
          have h9 := HW9.out
          rw [stretch_succ, ← HQ.out]
          have e1 : 1 + (i + 1) = q + 1 := by have := HQ.out; omega
          rw [e1]
          exact h9
        · obtain rfl : i = K := by omega
          have hge2 : ¬ ((i : Int) < k % 20) := by have := HKn.out; omega
          have HW3 : Hid (Bw w wr c m sg (.slice pa j cap) (.slice ia i icap) (stretch 6 j) (stretch 1 i) (seenB j) 1 (1 + i) 6 (6 + j) true 400) := HWi.out.more (by omega)
          clear HWi hlt hi
          go_wp2
          go_loopw [21] (fun jv wr => ∃ y : Nat, y ≤ j ∧ jv = .int .i64 y ∧ Hid (Bw w wr c m sg (.slice pa j cap) (.slice ia i icap) (stretch 6 j) (stretch 1 i) (seenB j) 1 (1 + i) (6 + y) (6 + j) true (400 + 2 * y))) (fun jv _ => j - (intOf jv).toNat)
          case atStart => exact ⟨0, by omega, rfl, HW3⟩
          case round =>
            obtain ⟨y, hy, rfl, HWy⟩ := hrel
            clear HW3
            by_cases hlt : y < j
            · have hlt3 : (y : Int) < (j : Int) := by omega
              have hy0 : (0 : Int) ≤ (y : Int) := by omega
              obtain ⟨g0, rfl, hc0⟩ := HWy.out.pAt (by rw [length_stretch]; omega)
              have c0 := hc0 y (by rw [length_stretch]; exact hlt)
              rw [stretch_at] at c0
              obtain ⟨q, hq⟩ : ∃ q, q = 6 + y := ⟨_, rfl⟩
              have HGv := hid (HWy.out.call (fun F h => h.giveP (by omega) (by omega)))
              rw [← hq] at HGv c0
              have HQ := hid hq
              clear HWy hq hc0
              go_wp2_with fail
              refine HGv.out.mono ?_
              clear HGv c0
              rintro e w7 ⟨rfl, hw7⟩
              obtain ⟨g1, e1, hc1⟩ := hw7.pAt (by rw [length_stretch]; omega)
              have c1 := hc1 y (by rw [length_stretch]; exact hlt)
              simp only [Option.some.injEq, Addr.mk.injEq] at e1
              rw [stretch_at, ← HQ.out, ← e1.1] at c1
              have HGn := hid (hw7.call (fun F h => h.givePNo q (by have := HQ.out; omega) (by omega) (by omega)))
              clear hw7 e1 hc1
              go_wp2_with fail
              refine HGn.out.mono ?_
              clear HGn c1
              rintro e w8 ⟨rfl, hw8⟩
              have HW8 := hid hw8
              clear hw8
              go_wp2
              refine ⟨⟨y + 1, by omega, by go_num, ?_⟩, by simp [intOf]; omega⟩
              have e1 : 6 + (y + 1) = q + 1 := by have := HQ.out; omega
              have e2 : 400 + 2 * (y + 1) = 400 + 2 * y + 1 + 1 := by omega
              rw [e1, e2]
              exact HW8
            · obtain rfl : y = j := by omega
              have hge3 : ¬ ((y : Int) < (y : Int)) := by omega
              have HW4 : Hid (Bw w wr c m sg (.slice pa y cap) (.slice ia i icap) (stretch 6 y) (stretch 1 i) (seenB y) 1 (1 + i) (6 + y) (6 + y) true 600) := HWy.out.more (by omega)
              clear HWy hlt hy
              go_wp2
              go_loopw [22] (fun jv wr => ∃ z : Nat, z ≤ i ∧ jv = .int .i64 z ∧ Hid (Bw w wr c m sg (.slice pa y cap) (.slice ia i icap) (stretch 6 y) (stretch 1 i) (seenB y) (1 + z) (1 + i) (6 + y) (6 + y) true (600 + z))) (fun jv _ => i - (intOf jv).toNat)
              case atStart => exact ⟨0, by omega, rfl, HW4⟩
              case round =>
                obtain ⟨z, hz, rfl, HWz⟩ := hrel
                clear HW4
                by_cases hlt : z < i
                · have hlt4 : (z : Int) < (i : Int) := by omega
                  have hz0 : (0 : Int) ≤ (z : Int) := by omega
                  obtain ⟨g0, rfl, hc0⟩ := HWz.out.iAt (by rw [length_stretch]; omega)
                  have c0 := hc0 z (by rw [length_stretch]; exact hlt)
                  rw [stretch_at] at c0
                  obtain ⟨q, hq⟩ : ∃ q, q = 1 + z := ⟨_, rfl⟩
                  have HGv := hid (HWz.out.call (fun F h => h.giveI (by omega) (by omega)))
                  rw [← hq] at HGv c0
                  have HQ := hid hq
                  clear HWz hq hc0
                  go_wp2_with fail
                  refine HGv.out.mono ?_
                  clear HGv c0
                  rintro e w7 ⟨rfl, hw7⟩
                  have HW7 := hid hw7
                  clear hw7
                  go_wp2
                  refine ⟨⟨z + 1, by omega, by go_num, ?_⟩, by simp [intOf]; omega⟩
                  have e1 : 1 + (z + 1) = q + 1 := by have := HQ.out; omega
                  rw [e1]
                  exact HW7
                · obtain rfl : z = i := by omega
                  have hge4 : ¬ ((z : Int) < (z : Int)) := by omega
                  have hfr := HWz.out.call (fun F h => h.free (by omega))
                  have e1 : 114 - (6 + y - (6 + y)) = 114 := by omega
                  have e2 : 23 - (1 + z - (1 + z)) = 23 := by omega
                  rw [e1, e2] at hfr
                  have HFr := hid hfr
                  clear HWz hfr e1 e2
                  go_wp2_with fail
                  refine HFr.out.mono ?_
                  clear HFr
                  rintro e w8 ⟨rfl, hw8⟩
                  have HB8 : Hid (Below w.heap.size w w8) := by obtain ⟨F8, h8⟩ := hw8; obtain ⟨_, _, _, _, _, hb⟩ := h8.bk; exact hb.out
                  clear hw8
                  go_wp2
                  go_ret
                  exact ⟨rfl, HB8.out⟩
end Go.Proofs.YtkkmbgjlmdddoaaGreat
