/- The reference's Sum returns the SHA-256 of the bytes, over any world that holds them. -/
import Derived.Test.YtkmmeokccmppbaaDoorRLoops
import Derived.Deep.RegionHeld3
import Derived.StillTailTactics
import Derived.Deep.QuietTactic
namespace Go.Proofs.YtkmmeokccmppbaaDoor
open Go.RowKit
attribute [local go_sem ↓] op_add op_xor op_and op_or op_not op_shl op_shr op_up op_down
attribute [local go_sem] V_mod U_or U_xor U_and U_not' u32_unsigned
attribute [local go_sem ↓] Go.wp_at_zero Go.wp_at_succ
set_option maxRecDepth 100000 in
set_option maxHeartbeats 8000000 in
theorem rsum_any (bs : List UInt8) (v : Value) (w : World) (hb : Bytes w v bs) (hlen : bs.length ≤ 140737488351232) :
    Calls Tryd.prog 7 #[v] w fun e w' => e = .returned (.agg ((sumS bs).map B).toArray) ∧ Below w.heap.size w w' := by
  have HBS := hid hb
  obtain ⟨ab, cb, rfl, -⟩ := hb
  go_enter Tryd.func7, Tryd.ntmps7
  go_wp2_with fail
  refine (consts_any _).mono ?_
  rintro e w1 ⟨rfl, hk1, hB1, hz1⟩
  obtain ⟨R1, -⟩ := rst_start rfl rfl hk1 hB1
  have HR1 := hid R1
  clear hk1 hB1 hz1 R1
  go_wp2_with (first
    | (refine wpList_append_bytes rfl (.tmp 27) (.tmp 28) rfl (w.heap.size + 1 + 1 + 1) (.slice none 0 0) [] bs _ rfl HR1.out.own rfl (HBS.out.up HR1.out.below) (by simp; omega) HR1.out.base ?_; intro v2 w2 hO2 hG2; have HR2 := hid (HR1.out.appended hO2 hG2); clear hO2 hG2)
    | (refine wpList_append_bytes rfl (.tmp 29) (.tmp 30) rfl (w.heap.size + 1 + 1 + 1) v2 ([] ++ bs) [128] _ rfl (HR2.out.alloc _).own rfl (bytes_new w2 [128] #[.int .u8 128] 5 (0, 0) 1 1 rfl rfl (Nat.le_refl _)) (by simp; omega) (HR2.out.alloc _).base ?_; intro v3 w3 hO3 hG3; have HR3 := hid ((HR2.out.alloc _).appended hO3 hG3); clear hO3 hG3))
  clear HR1 HR2
  have HR3' : Hid (Rst w w3 v3 (padZ bs 0) startS.list) := HR3
  clear HR3
  go_loopw [5] (fun m wr => ∃ j : Nat, j ≤ (119 - bs.length % 64) % 64 ∧ Hid (Rst w wr m (padZ bs j) startS.list)) (fun m _ => bs.length + 1 + 64 - lenOf m)
  case atStart => exact ⟨0, by omega, HR3'⟩
  case round =>
    obtain ⟨j, hj, hR⟩ := hrel
    clear HR3'
    obtain ⟨am, cm, rfl⟩ := hR.out.shape
    have hpl := length_padZ bs j
    have hrem := pad_rem bs.length j hj
    rw [← hpl] at hrem
    have HPL := hid hpl
    generalize hN : (padZ bs j).length = N at *
    have HN := hid hN
    clear hN hpl
    have htm : (N : Int).tmod 64 = (N : Int) % 64 := Int.tmod_eq_emod_of_nonneg (by omega)
    by_cases hlt : j < (119 - bs.length % 64) % 64
    · have hne : ((N : Int) % 64 != 56) = true := by rw [bne_iff_ne]; omega
      have hNN : N ≤ 140737488355000 := by have := HPL.out; omega
      go_wp2_with (refine wpList_append_bytes rfl (.tmp 36) (.tmp 37) rfl (w.heap.size + 1 + 1 + 1) _ (padZ bs j) [0] _ rfl (hR.out.alloc _).own rfl (bytes_new wr [0] #[.int .u8 0] 5 (0, 0) 1 1 rfl rfl (Nat.le_refl _)) (by rw [HN.out]; simp; omega) (hR.out.alloc _).base ?_; intro v4 w4 hO4 hG4; have HR4 := hid ((hR.out.alloc _).appended hO4 hG4); clear hO4 hG4)
      rw [padZ_next] at HR4
      obtain ⟨a4, c4, rfl⟩ := HR4.out.shape
      go_roundw
      case rel => exact ⟨j + 1, by omega, HR4⟩
      case measure =>
        have h1 := HPL.out
        have h2 := length_padZ bs (j + 1)
        simp only [lenOf]
        omega
    · have hne : ((N : Int) % 64 != 56) = false := by rw [bne_eq_false_iff_eq]; omega
      obtain rfl : j = (119 - bs.length % 64) % 64 := by omega
      have hR0 : Hid (Rst w wr (.slice am N cm) (padB bs 0) startS.list) := by
        have := hR.out
        rw [show padB bs 0 = padZ bs ((119 - bs.length % 64) % 64) from by simp [padB]]
        exact this
      clear hR hrem hj hlt htm
      go_wp2_with fail
      go_loopw [5, 7] (fun m i wr => ∃ k : Nat, k ≤ 8 ∧ i = .int .i64 k ∧ Hid (Rst w wr m (padB bs k) startS.list)) (fun _ i _ => 8 - (intOf i).toNat)
      case atStart => exact ⟨0, by omega, rfl, hR0⟩
      case round =>
        obtain ⟨k, hk, rfl, hR⟩ := hrel
        clear hR0 HN HPL hne
        obtain ⟨ak, ck, rfl⟩ := hR.out.shape
        by_cases hlt : k < 8
        · have hpl := hid (length_padB bs k)
          have q1 : (0 : Int) ≤ 56 - 8 * (k : Int) := by omega
          have q2 : 56 - 8 * (k : Int) < 64 := by omega
          have q3 : (56 - 8 * (k : Int)).toNat = 8 * (7 - k) := by omega
          go_wp2_with (refine wpList_append_bytes rfl (.tmp 47) (.tmp 54) rfl (w.heap.size + 1 + 1 + 1) _ (padB bs k) [sizeByte bs.length k] _ rfl (hR.out.alloc _).own rfl (bytes_new wr [sizeByte bs.length k] _ 5 (0, 0) 1 1 (by rw [V_size]; rfl) rfl (Nat.le_refl _)) (by rw [hpl.out]; simp; omega) (hR.out.alloc _).base ?_; intro v4 w4 hO4 hG4; have HR4 := hid ((hR.out.alloc _).appended hO4 hG4); clear hO4 hG4)
          rw [padB_next] at HR4
          obtain ⟨a4, c4, rfl⟩ := HR4.out.shape
          go_wp2
          go_roundw
          case rel => exact ⟨k + 1, by omega, by go_num, HR4⟩
          case measure => simp [intOf]; omega
        · have hge8 : ¬ ((k : Int) < 8) := by omega
          have hR : Hid (Rst w wr (.slice ak (padB bs 8).length ck) (padB bs 8) startS.list) := by have := hR; rwa [show k = 8 by omega] at this
          have hl8 : (padB bs k).length = (padB bs 8).length := by rw [show k = 8 by omega]
          rw [hl8]
          have HM := hid (length_all bs)
          have HMl := hid (length_padB bs 8)
          have HSUM := hid (sumS_pad bs)
          clear hk hlt hl8
          generalize padB bs 8 = M at *
          generalize hnb : M.length / 64 = nb at *
          clear hnb
          go_wp2_with fail
          go_loopw [8] (fun i wr => ∃ k : Nat, k ≤ nb ∧ i = .int .i64 ((64 * k : Nat) : Int) ∧ Hid (Rst w wr (.slice ak M.length ck) M (blocksS M k).list)) (fun i _ => M.length - (intOf i).toNat)
          case atStart => exact ⟨0, by omega, rfl, hR⟩
          case round =>
            obtain ⟨k, hk, rfl, hR⟩ := hrel
            by_cases hlt : k < nb
            · have hMb : M.length ≤ 140737488355328 := by have := HMl.out; omega
              have hML := HM.out
              have HBL := hid (block_get M k)
              have HMIX : Hid (blocksS M (k + 1) = mixS (blocksS M k) ((M.drop (64 * k)).take 64)) := rfl
              generalize hblk : (M.drop (64 * k)).take 64 = blk at *
              generalize hSk : blocksS M k = S at *
              clear hblk hSk
              have hMby := hid hR.out.bytes
              generalize hat : 64 * k = at0 at *
              have hat1 : (at0 : Int) < (M.length : Int) := by omega
              have hat2 : at0 + 64 ≤ M.length := by omega
              have HAT := hid hat
              clear hat hML
              have hr3 := hR.out.base
              obtain ⟨wa, hwa⟩ : ∃ z, z = wr := ⟨wr, rfl⟩
              subst hwa
              go_wp2_with (refine wpList_make_words rfl rfl ?_; intro wm hBm hWm hzm)
              have HBm := hid hBm
              have HWm : Hid (wm.heap[wa.heap.size]? = some (.cells ((byteW blk 0).map W).toArray 42 (0, 0))) := by rw [byteW_zero]; exact hWm
              clear hBm hWm hzm
              go_loopw [10] (fun i wx => ∃ a : Nat, a ≤ 16 ∧ i = .int .i64 a ∧ Hid (Below wa.heap.size wa wx) ∧ Hid (wx.heap[wa.heap.size]? = some (.cells ((byteW blk (4 * a)).map W).toArray 42 (0, 0)))) (fun i _ => 16 - (intOf i).toNat)
              case atStart => exact ⟨0, by omega, rfl, HBm, HWm⟩
              case round =>
                obtain ⟨a, ha, rfl, hBx, hWx⟩ := hrel
                clear HBm HWm
                by_cases ha16 : a < 16
                · --L4ROUND
                  have ha1 : (a : Int) < 16 := by omega
                  go_wp2_with fail
                  go_loopw [11] (fun j wx => ∃ b : Nat, b ≤ 4 ∧ j = .int .i64 b ∧ Hid (Below wa.heap.size wa wx) ∧ Hid (wx.heap[wa.heap.size]? = some (.cells ((byteW blk (4 * a + b)).map W).toArray 42 (0, 0)))) (fun j _ => 4 - (intOf j).toNat)
                  case atStart => exact ⟨0, by omega, rfl, hBx, hWx⟩
                  case round =>
                    obtain ⟨b, hb, rfl, hBy, hWy⟩ := hrel
                    clear hBx hWx
                    by_cases hb4 : b < 4
                    · have hlw := length_byteW blk (4 * a + b)
                      have hc := word_cell hWy.out (show a < _ by omega)
                      have hf : wr.frozen? ⟨wa.heap.size, a, none⟩ = false := frozen_of_block hWy.out _
                      obtain ⟨bm, om, rfl, hcm⟩ := (hMby.out.up hBy.out).byte (show at0 + (4 * a + b) < M.length by omega)
                      have hn := byteW_next blk (4 * a + b) a ha16 (by omega)
                      rw [HBL.out (4 * a + b) (by omega)] at hn
                      have HN := hid hn
                      clear hn hlw
                      generalize (byteW blk (4 * a + b)).getD a 0 = y at *
                      generalize M.getD (at0 + (4 * a + b)) 0 = x at *
                      have i0 : (0 : Int) ≤ (at0 : Int) + 4 * (a : Int) + (b : Int) := by omega
                      have i1 : (at0 : Int) + 4 * (a : Int) + (b : Int) < (M.length : Int) := by omega
                      have i2 : ((at0 : Int) + 4 * (a : Int) + (b : Int)).toNat = at0 + (4 * a + b) := by omega
                      have wr1 : IntKind.i64.wrap (4 * (a : Int)) = 4 * (a : Int) := IntWalk.i64_in _ (by omega)
                      have wr2 : IntKind.i64.wrap ((at0 : Int) + 4 * (a : Int)) = (at0 : Int) + 4 * (a : Int) := IntWalk.i64_in _ (by omega)
                      have wr3 : IntKind.i64.wrap ((at0 : Int) + 4 * (a : Int) + (b : Int)) = (at0 : Int) + 4 * (a : Int) + (b : Int) := IntWalk.i64_in _ (by omega)
                      have a0 : (0 : Int) ≤ (a : Int) := by omega
                      have a64 : (a : Int) < 64 := by omega
                      have b4 : (b : Int) < 4 := by omega
                      have hl0 := lt_of_heap hWy.out
                      go_wp2
                      go_still_tail 19, hmix
                      go_wp2_with fail
                      go_roundw
                      case rel =>
                        refine ⟨b + 1, by omega, by go_num, ?_, ?_⟩
                        · exact (hBy.out.setCell (by simp) _).drew
                        · show _ = some (Obj.cells (List.map W (byteW blk (4 * a + b + 1))).toArray _ _)
                          rw [← HN.out, ← set_map]
                          exact block_setCell hWy.out _ _
                      case measure => simp [intOf]; omega
                    · obtain rfl : b = 4 := by omega
                      go_wp2
                      go_roundw
                      case rel => exact ⟨a + 1, by omega, by go_num, hBy, by have := hWy; rwa [show 4 * a + 4 = 4 * (a + 1) by omega] at this⟩
                      case measure => simp [intOf]; omega
                · --L4EXIT
                  have hge16 : ¬ ((a : Int) < 16) := by omega
                  have hWx : Hid (wr.heap[wa.heap.size]? = some (.cells ((byteW blk 64).map W).toArray 42 (0, 0))) := by have := hWx; rwa [show 4 * a = 64 by omega] at this
                  have HM2 := hid (mixS_rv S blk)
                  have hWs : Hid (wr.heap[wa.heap.size]? = some (.cells ((wordW (wordsTo blk 64) 16).map W).toArray 42 (0, 0))) := by rw [← wordW_start]; exact hWx
                  clear hWx ha ha16
                  generalize wordsTo blk 64 = ws at *
                  go_wp2_with fail
                  refine loop6 wa ws _ _ _ _ _ _ _ _ _ _ _ _ _ _ _ _ _ _ _ _ _ _ _ _ _ _ _ _ _ _ _ _ _ _ _ _ _ _ _ _ _ _ _ _ _ _ _ _ _ _ _ _ _ _ _ _ _ _ _ _ _ _ _ _ _ _ _ _ _ _ _ _ _ _ _ _ _ _ _ _ _ _ _ _ _ _ _ _ _ _ _ _ _ _ _ _ _ _ _ _ _ _ _ _ _ _ _ _ _ _ _ _ _ _ _ _ _ _ _ _ _ _ _ _ _ _ _ _ _ _ _ _ _ _ _ _ _ _ _ _ _ _ _ _ _ _ _ _ _ _ _ _ _ _ _ _ _ _ _ _ _ _ _ _ _ _ _ _ _ _ _ _ _ _ _ _ _ _ _ _ _ _ _ _ _ _ _ _ _ _ _ _ _ _ _ _ _ _ _ _ _ _ _ _ _ _ _ _ _ _ _ _ _ _ _ _ _ _ _ _ _ _ _ _ _ _ _ _ _ _ _ _ _ _ _ _ _ _ _ _ _ _ _ _ _ _ _ _ _ _ _ _ _ _ _ _ _ _ _ _ _ _ _ _ _ _ _ _ _ _ _ _ _ _ _ _ _ _ _ _ _ _ _ _ _ _ wr hBx.out hWs.out _ ?_
                  intro u12 u13 u14 u90 u91 u92 u93 u94 u95 u96 u97 u98 u99 u100 u101 u102 u103 u104 u105 u106 u107 u108 u109 u110 u111 u112 u113 u114 u115 u116 u117 u118 u119 u120 u121 u122 u123 u124 u125 u126 u127 u128 u129 u130 u131 u132 u133 u134 u135 wx hBy0 hWy0
                  have hBy := hid hBy0
                  have hWy := hid hWy0
                  clear hBx hWs hBy0 hWy0
                  have hRx := hid (hR.out.up hBy.out)
                  have hzx := hBy.out.size
                  go_wp2_with (refine wpList_append_words rfl (.tmp 136) (.tmp 137) rfl S (w.heap.size + 1) rfl rfl hRx.out.hh ?_; intro v5 w5 hV5 hB5)
                  have HV5 := hid (hV5.mono hzx)
                  have hB6 := hid (hBy.out.trans (hB5.mono hzx))
                  have hW6 := hid (below_block hB5 hWy.out (lt_of_heap hWy.out))
                  clear hV5 hB5 hRx hBy hWy hzx
                  refine loop7 wa (w.heap.size + 1 + 1) ws S _ _ _ _ _ _ _ _ _ _ _ _ _ _ _ _ _ _ _ _ _ _ _ _ _ _ _ _ _ _ _ _ _ _ _ _ _ _ _ _ _ _ _ _ _ _ _ _ _ _ _ _ _ _ _ _ _ _ _ _ _ _ _ _ _ _ _ _ _ _ _ _ _ _ _ _ _ _ _ _ _ _ _ _ _ _ _ _ _ _ _ _ _ _ _ _ _ _ _ _ _ _ _ _ _ _ _ _ _ _ _ _ _ _ _ _ _ _ _ _ _ _ _ _ _ _ _ _ _ _ _ _ _ _ _ _ _ _ _ _ _ _ _ _ _ _ _ _ _ _ _ _ _ _ _ _ _ _ _ _ _ _ _ _ _ _ _ _ _ _ _ _ _ _ _ _ _ _ _ _ _ _ _ _ _ _ _ _ _ _ _ _ _ _ _ _ _ _ _ _ _ _ _ _ _ _ _ _ _ _ _ _ _ _ _ _ _ _ _ _ _ _ _ _ _ _ _ _ _ _ _ _ _ _ _ _ _ _ _ _ _ _ _ _ _ _ _ _ _ _ _ _ _ _ _ _ _ _ _ _ _ _ _ _ _ _ _ _ _ _ _ _ _ _ _ _ _ _ _ _ _ _ _ _ v5 w5 hR.out.kk HV5.out hB6.out hW6.out _ ?_
                  intro u15 u16 u17 u18 u19 u20 u21 u139 u140 u141 u142 u143 u144 u145 u146 u147 u148 u149 u150 u151 u152 u153 u154 u155 u156 u157 u158 u159 u160 u161 u162 u163 u164 u165 u166 u167 u168 u169 u170 u171 u172 u173 u174 u175 u176 u177 u178 u179 u180 u181 u182 u183 u184 u185 u186 u187 u188 u189 u190 u191 u192 u193 u194 u195 u196 u197 u198 u199 u200 u201 u202 u203 u204 u205 u206 u207 u208 u209 u210 u211 u212 u213 u214 u215 u216 u217 u218 u219 u220 u221 u222 u223 u224 u225 u226 u227 u228 u229 u230 u231 u232 u233 u234 u235 u236 u237 u238 u239 u240 u241 u242 u243 u244 u245 u246 u247 u248 u249 u250 u251 u252 u253 u254 u255 wx7 hV7 hBv7
                  have hV := hid hV7
                  have hBv := hid hBv7
                  clear HV5 hB6 hW6 hV7 hBv7
                  obtain ⟨g, c, rfl, hgz, hgl, hr8⟩ := hV.out
                  have HR8 := hid hr8
                  have hRv := hid (hR.out.up hBv.out)
                  clear hV hr8 hBv
                  generalize rv ws S 64 = s at *
                  go_wp2_with fail
                  go_loopw [22] (fun i wx => ∃ a : Nat, a ≤ 8 ∧ i = .int .i64 a ∧ Hid (Rst w wx (.slice ak M.length ck) M (addL S.list s.list a)) ∧ Hid (wx.rangeAt g 0 (s.list.map W))) (fun i _ => 8 - (intOf i).toNat)
                  case atStart => exact ⟨0, by omega, rfl, hRv, HR8⟩
                  case round =>
                    obtain ⟨a, ha, rfl, hRy, hr9⟩ := hrel
                    clear HR8 hRv
                    by_cases ha8 : a < 8
                    · --L8ROUND
                      have ch := word_cell hRy.out.hh (show a < _ by rw [length_addL _ _ _ rfl rfl ha]; exact ha8)
                      rw [addL_get _ _ _ rfl rfl ha8] at ch
                      have cv : wr.cell? ⟨g, a, none⟩ = some (W (s.list.getD a 0)) := by
                        have := hr9.out a (W (s.list.getD a 0)) (by rw [List.getElem?_map, get_some (d := 0) (show a < s.list.length by exact ha8)]; rfl)
                        rwa [Nat.zero_add] at this
                      have fh : wr.frozen? ⟨w.heap.size + 1, a, none⟩ = false := frozen_of_block hRy.out.hh _
                      have HAS := hid (addL_set S.list s.list a rfl rfl ha8)
                      generalize S.list.getD a 0 = x at *
                      generalize s.list.getD a 0 = y at *
                      have a0 : (0 : Int) ≤ (a : Int) := by omega
                      have a8 : (a : Int) < 8 := by omega
                      go_wp2
                      go_still_tail 10, hmix
                      go_wp2_with fail
                      go_roundw
                      case rel =>
                        refine ⟨a + 1, by omega, by go_num, ?_, ?_⟩
                        · have := hRy.out.set a (x + y)
                          rw [HAS.out] at this
                          exact this.drew
                        · exact range_set hr9.out (by omega)
                      case measure => simp [intOf]; omega
                    · --L8EXIT
                      have hge8 : ¬ ((a : Int) < 8) := by omega
                      rw [show a = 8 by omega, addL_all] at hRy
                      go_wp2
                      go_roundw
                      case rel =>
                        refine ⟨k + 1, by omega, ?_, ?_⟩
                        · have := HAT.out
                          congr 1
                          omega
                        rw [HMIX.out, HM2.out]
                        exact hRy
                      case measure => have := HAT.out; simp [intOf]; omega
            · --L3EXIT
              have hge : ¬ (((64 * k : Nat) : Int) < (M.length : Int)) := by have := HM.out; omega
              obtain rfl : k = nb := by omega
              generalize blocksS M k = S at *
              clear HM HMl hk hlt
              obtain ⟨wa, hwa⟩ : ∃ z, z = wr := ⟨wr, rfl⟩
              subst hwa
              have hRa := hid (hR.out.alloc (.cells ((List.replicate 32 (0 : UInt8)).map B).toArray 26))
              have hOa := hid (block_new wa (.cells ((List.replicate 32 (0 : UInt8)).map B).toArray 26))
              have hr3 := hR.out.base
              go_wp2_with fail
              go_loopw [24] (fun i wx => ∃ a : Nat, a ≤ 32 ∧ i = .int .i64 a ∧ Hid (Rst w wx (.slice ak M.length ck) M S.list) ∧ Hid (wx.heap[wa.heap.size]? = some (.cells ((outTo S a).map B).toArray 26 (0, 0)))) (fun i _ => 32 - (intOf i).toNat)
              case atStart => exact ⟨0, by omega, rfl, hRa, hOa⟩
              case round =>
                obtain ⟨a, ha, rfl, hRy, hOy⟩ := hrel
                clear hRa hOa
                by_cases ha32 : a < 32
                · have hlo := length_outTo S a ha
                  have c1 := word_cell hRy.out.hh (show a / 4 < S.list.length by show a / 4 < 8; omega)
                  have c2 : wr.cell? ⟨wa.heap.size, a, none⟩ = some (B ((outTo S a).getD a 0)) := by rw [cell_of_block hOy.out, List.getElem?_toArray, List.getElem?_map, get_some (d := 0) (by omega)]; rfl
                  have f2 : wr.frozen? ⟨wa.heap.size, a, none⟩ = false := frozen_of_block hOy.out _
                  have hS : Hid ((outTo S a).set a (outByte S a) = outTo S (a + 1)) := outTo_set S a ha32
                  have hE : Hid (outByte S a = (S.list.getD (a / 4) 0 >>> UInt32.ofNat (24 - 8 * (a % 4))).toUInt8) := rfl
                  clear hlo
                  generalize (outTo S a).getD a 0 = z at *
                  generalize S.list.getD (a / 4) 0 = x at *
                  have q1 : (0 : Int) ≤ 24 - 8 * ((a : Int) % 4) := by omega
                  have q2 : 24 - 8 * ((a : Int) % 4) < 32 := by omega
                  have q3 : (24 - 8 * ((a : Int) % 4)).toNat = 24 - 8 * (a % 4) := by omega
                  have a0 : (0 : Int) ≤ (a : Int) := by omega
                  have a32 : (a : Int) < 32 := by omega
                  go_wp2
                  have hv : U x / 2 ^ (24 - 8 * (a % 4)) % 256 = V (outByte S a) := by rw [hE.out, ← U_down, ← U_shr x _ (by omega), IntKind.wrap_u8']
                  go_roundw
                  case rel =>
                    refine ⟨a + 1, by omega, by go_num, ?_, ?_⟩
                    · exact hRy.out.setOther _ _ _ hr3 (fun k hk => Nat.ne_of_lt (hR.out.own.lt k hk).2)
                    · rw [hv, ← hS.out, ← set_mapB]; exact block_setCell hOy.out _ _
                  case measure => simp [intOf]; omega
                · have hge32 : ¬ ((a : Int) < 32) := by omega
                  rw [show a = 32 by omega, outTo_all] at hOy
                  have Hs : Hid (((outS S).map B).toArray.size = 32) := by simp [Hid, length_outS]
                  have H1 := hid (all_oneCell_toArray (B_one (outS S)))
                  have HRes := hid hRy.out.res
                  go_wp2_with (first
                    | (refine wpList_load_block rfl 26 (.tmp 23) rfl wa.heap.size rfl ((outS S).map B).toArray 26 (0, 0) hOy.out _ Tryd.underlying26 rfl (info26.trans (congrArg some Hs.out.symm)) ?_)
                    | (refine wpList_store_block rfl 26 (.tmp 2) (.tmp 287) rfl w.heap.size ((outS S).map B).toArray rfl rfl _ 26 HRes.out (Hs.out.trans (by simp)) (info26.trans (congrArg some Hs.out.symm)) H1.out ?_; intro w6 hg6 hb6 hz6))
                  refine bodyPost_ret (results_cell Tryd.results7 _ _ rfl hb6 _ Tryd.underlying26 rfl (info26.trans (congrArg some Hs.out.symm))) rfl ⟨by rw [HSUM.out], ?_⟩
                  exact hRy.out.below.trans (below_of_grown hg6 (Nat.le_refl _) hRy.out.below.size)
end Go.Proofs.YtkmmeokccmppbaaDoor
