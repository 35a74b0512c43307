/- TarfmtSums' walk. -/
import Derived.Test.YtdfnhgkabaikaabTLive
namespace Go.Proofs.Ytdfnhgkabaikaab
open Go.RowKit
theorem total_set {bs : List UInt8} {k : Nat} (x : UInt8) (hk : k < bs.length) : total (bs.set k x) + (bs.getD k 0).toNat = total bs + x.toNat := by
  have h1 : bs = bs.take k ++ bs[k] :: bs.drop (k + 1) := by rw [← List.drop_eq_getElem_cons hk, List.take_append_drop]
  have h2 : total (bs.set k x) = total (bs.take k) + (x.toNat + total (bs.drop (k + 1))) := by
    rw [List.set_eq_take_append_cons_drop, if_pos hk, total_append, show x :: bs.drop (k + 1) = [x] ++ bs.drop (k + 1) from rfl, total_append]
    simp [total]
  have h3 : total bs = total (bs.take k) + (bs[k].toNat + total (bs.drop (k + 1))) := by
    conv => lhs; rw [h1]
    rw [total_append, show bs[k] :: bs.drop (k + 1) = [bs[k]] ++ bs.drop (k + 1) from rfl, total_append]
    simp [total]
  have h4 : bs.getD k 0 = bs[k] := by rw [List.getD_eq_getElem?_getD, List.getElem?_eq_getElem hk]; rfl
  rw [h2, h3, h4]
  omega
theorem fld_set_out {bs : List UInt8} {k : Nat} (x : UInt8) (h : k < 148 ∨ 156 ≤ k) : fld (bs.set k x) 148 8 = fld bs 148 8 := by
  unfold fld
  rw [List.drop_set]
  split
  · rfl
  · rw [List.take_set, List.set_eq_of_length_le]
    rw [List.length_take]; omega
theorem fld_set_in {bs : List UInt8} {k : Nat} (x : UInt8) (h : 148 ≤ k) : fld (bs.set k x) 148 8 = (fld bs 148 8).set (k - 148) x := by
  unfold fld
  rw [List.drop_set, if_neg (by omega), List.take_set]
theorem sumH_out {bs : List UInt8} {k : Nat} (x : UInt8) (hk : k < bs.length) (h : k < 148 ∨ 156 ≤ k) : sumH (bs.set k x) - sumH bs = V x - V (bs.getD k 0) := by
  have h1 := total_set x hk
  unfold sumH V
  rw [fld_set_out x h]
  omega
theorem sumH_in {bs : List UInt8} {k : Nat} (x : UInt8) (hl : bs.length = 512) (h1 : 148 ≤ k) (h2 : k < 156) : sumH (bs.set k x) = sumH bs := by
  have h3 := total_set x (show k < bs.length by omega)
  have hf : (fld bs 148 8).length = 8 := length_fld bs 148 8 (by omega)
  have h4 := total_set (bs := fld bs 148 8) (k := k - 148) x (by omega)
  have h5 : (fld bs 148 8).getD (k - 148) 0 = bs.getD k 0 := by
    unfold fld
    rw [List.getD_eq_getElem?_getD, List.getD_eq_getElem?_getD, List.getElem?_take_of_lt (by omega), List.getElem?_drop, show 148 + (k - 148) = k by omega]
  rw [h5] at h4
  unfold sumH
  rw [fld_set_in x h1]
  omega
set_option maxRecDepth 100000 in
theorem sum_other (ao : Option Addr) (n cap : Nat) (w : World) (hn : n ≠ 512) : Calls Try.prog 5 #[.slice ao n cap] w fun e w' => e = .returned (.int .i64 0) ∧ w' = w := by
  have h1 : ((n : Int) != 512) = true := bne_iff_ne.2 (by omega)
  go_enter Try.func5, Try.ntmps5
  go_wp2
  go_ret
  exact ⟨rfl, rfl⟩
theorem sum_rd {ao : Option Addr} {cap : Nat} {bs : List UInt8} (w : World) (hr : Rd w (.slice ao 512 cap) bs) : Calls Try.prog 5 #[.slice ao 512 cap] w fun e w' => e = .returned (.int .i64 (sumH bs)) ∧ Below w.heap.size w w' := by
  obtain ⟨ao', cap', e, r1, r2, r3, r4⟩ := hr
  simp only [Value.slice.injEq] at e
  obtain ⟨rfl, hl, rfl⟩ := e
  cases ao with
  | none => have := r3 rfl; omega
  | some ad =>
    obtain ⟨b, o, rfl, -⟩ := r4 ad rfl 0 (bs.getD 0 0) (by rw [List.getD_eq_getElem?_getD, List.getElem?_eq_getElem (by omega)]; rfl)
    obtain ⟨c, rfl⟩ : ∃ c, cap = c + 512 := ⟨cap - 512, by omega⟩
    refine sum_512 bs b o c w hl.symm (fun j hj => ?_)
    obtain ⟨b', o', he, -, hc⟩ := r4 _ rfl j (bs.getD j 0) (by rw [List.getD_eq_getElem?_getD, List.getElem?_eq_getElem hj]; rfl)
    simp only [Addr.mk.injEq, and_true] at he
    obtain ⟨rfl, rfl⟩ := he
    exact hc
/-- Bytes are copied into a block of one's own. -/
theorem copy_blk (bs : List UInt8) (v : Value) (w : World) (hr : Rd w v bs) (hlen : bs.length ≤ 140737488351232) (h0 : 0 < bs.length) :
    Calls Try.prog 6 #[v] w fun e w' => ∃ g cap C, e = .returned (.slice (some ⟨g, 0, none⟩) bs.length cap) ∧ bs.length ≤ cap ∧ cap ≤ 9223372036854775807 ∧ w.heap.size ≤ g ∧ w'.heap[g]? = some (.cells C 5 (0, 0)) ∧ C.toList.take bs.length = bs.map B ∧ Below w.heap.size w w' := by
  obtain ⟨a, cap, rfl, hcap, _, hnone, hx⟩ := hr
  cases a with
  | none => have := hnone rfl; omega
  | some ad =>
    obtain ⟨b, off, rfl, _⟩ := hx ad rfl 0 bs[0] (List.getElem?_eq_getElem h0)
    have hcell : ∀ (j : Nat) (u : Value), (bs.map B)[j]? = some u → w.cell? ((⟨b, off, none⟩ : Addr).add j) = some u := by
      intro j u hu
      rw [List.getElem?_map] at hu
      obtain ⟨x, hxj, rfl⟩ := Option.map_eq_some_iff.1 hu
      obtain ⟨b', off', he, _, hc⟩ := hx _ rfl j x hxj
      simp only [Addr.mk.injEq, and_true] at he
      obtain ⟨rfl, rfl⟩ := he
      rw [Addr.add_mid]; exact hc
    have HC := hid hcell
    obtain ⟨i0, hi, hz0, hz1, hz2⟩ := info_parts infoU
    have HI := hid hi
    clear hx hcell hi
    go_enter Try.func6, Try.ntmps6
    go_wp2_with (refine wpList_append_lies _ rfl (.tmp 4) (.tmp 5) 22 rfl w.heap.size 5 i0 (.int .u8 0) 1 1 Try.underlying22 HI.out hz0 hz1 hz2 rfl (by omega) (.slice none 0 0) 0 [] rfl (World.ownsRow_nil _ _ _ _) ⟨b, off, none⟩ bs.length cap (bs.map B) rfl (by simp) HC.out (B_one _) h0 (by unfold maxLen; omega) (by omega) (Nat.le_refl _) w.heap.size rfl ?_; intro g cap' w1 hown hgr hat hlt)
    go_ret
    rw [List.nil_append, Nat.zero_add] at hown
    have hB : Below w.heap.size w w1 := ⟨hgr.os, hgr.tape, hgr.output, hgr.size, fun k hk => hgr.block k hk (by simp [Value.ownBlock])⟩
    rcases hown.2 with ⟨e, -⟩ | ⟨g', cap2, cur, e, h1, h2, h3, h4, h5, h6⟩
    · cases e
    · simp only [Value.slice.injEq, Option.some.injEq, Addr.mk.injEq, and_true, true_and] at e
      obtain ⟨rfl, rfl⟩ := e
      exact ⟨g, cap', cur, rfl, h3, by unfold maxLen at h4; omega, h1, h2, by simpa using h6, hB⟩
set_option maxHeartbeats 2000000 in
set_option maxRecDepth 100000 in
theorem sums_walk (bs : List UInt8) (v : Value) (a : Nat) (x : UInt8) (w : World) (hr : Rd w v bs) (ha : a < 65536) :
    Calls Try.prog 3 #[v, .int .u16 (a : Nat), B x] w fun e w' => e = .returned (.bool true) ∧ Below w.heap.size w w' := by
  have HR := hid hr
  obtain ⟨ao, cap, rfl, -⟩ := hr
  by_cases hl : bs.length = 512
  · rw [hl] at HR ⊢
    have HL := hid hl
    clear hl
    obtain ⟨k, hk, hk5⟩ : ∃ k : Nat, ((a : Int) % 512) = (k : Int) ∧ k < 512 := ⟨a % 512, by omega, by omega⟩
    have HCp := hid (copy_blk bs _ w HR.out (by rw [HL.out]; omega) (by rw [HL.out]; omega))
    go_enter Try.func3, Try.ntmps3
    go_wp2_with fail
    rw [hk]
    refine HCp.out.mono ?_
    clear HCp
    rintro e w1 ⟨g, cap1, C, rfl, hc1, hc2, hg, hblk, htk, hB1⟩
    rw [HL.out] at hc1 htk ⊢
    have hgetC : ∀ j, j < 512 → C[j]? = some (B (bs.getD j 0)) := fun j hj => by
      have h1 : (C.toList.take 512)[j]? = some (B (bs.getD j 0)) := by rw [htk, List.getElem?_map, get_some (d := (0 : UInt8)) (by rw [HL.out]; exact hj)]; rfl
      rw [List.getElem?_take_of_lt hj] at h1
      simpa using h1
    have ck : w1.cell? ⟨g, k, none⟩ = some (B (bs.getD k 0)) := by rw [cell_of_block hblk]; exact hgetC k hk5
    have fk : w1.frozen? ⟨g, k, none⟩ = false := frozen_of_block hblk k
    have hb2 := block_setCell hblk k (B x)
    have hB2 := hB1.setCell (show w.heap.size ≤ Addr.block ⟨g, k, none⟩ from hg) (B x)
    have hR2 : Rd (w1.setCell ⟨g, k, none⟩ (B x)) (.slice (some ⟨g, 0, none⟩) 512 cap1) (bs.set k x) := by
      have hl2 : (bs.set k x).length = 512 := by rw [List.length_set, HL.out]
      refine ⟨_, cap1, by rw [hl2], by omega, hc2, (fun h => by cases h), fun ad had j y hj => ?_⟩
      cases had
      refine ⟨g, 0, rfl, lt_of_heap hb2, ?_⟩
      have hj5 : j < 512 := by have := (List.getElem?_eq_some_iff.1 hj).1; omega
      rw [Nat.zero_add, cell_of_block hb2, Array.getElem?_setIfInBounds]
      rw [List.getElem?_set] at hj
      by_cases e : k = j
      · subst e
        rw [if_pos rfl, if_pos (by rw [HL.out]; exact hk5)] at hj
        have hCs : k < C.size := (Array.getElem?_eq_some_iff.1 (hgetC k hk5)).1
        rw [if_pos rfl, if_pos hCs]
        injection hj with hj
        rw [hj]
      · rw [if_neg e] at hj ⊢
        rw [hgetC j hj5, List.getD_eq_getElem?_getD, hj]
        rfl
    have HB2 := hid hB2
    have HR2 := hid hR2
    have hk0 : (0 : Int) ≤ (k : Int) := by omega
    have hk51 : (k : Int) < 512 := by omega
    clear hblk htk hgetC hb2 hB2 hR2 hB1 hg
    go_upto_region 6 with fail
    generalize hW : World.setCell w1 _ _ = w2
    have HB3 : Hid (Below w.heap.size w w2) := by unfold Hid; rw [← hW]; exact HB2.out
    have HR3 : Hid (Rd w2 (.slice (some ⟨g, 0, none⟩) 512 cap1) (bs.set k x)) := by unfold Hid; rw [← hW]; exact HR2.out
    clear hW HB2 HR2 ck fk
    go_wp2_with fail
    refine (sum_rd w2 (HR.out.up HB3.out)).mono ?_
    rintro e w3 ⟨rfl, hB⟩
    have HB4 : Hid (Below w.heap.size w w3) := HB3.out.trans (hB.mono HB3.out.size)
    have HR4 := hid (HR3.out.up hB)
    clear hB HB3 HR3
    go_wp2_with fail
    refine (sum_rd w3 HR4.out).mono ?_
    rintro e w4 ⟨rfl, hB⟩
    have HB5 : Hid (Below w.heap.size w w4) := HB4.out.trans (hB.mono HB4.out.size)
    clear hB HB4 HR4
    have HS1 := hid (sumH_bounds HL.out)
    have HS2 := hid (sumH_bounds (h := bs.set k x) (by rw [List.length_set]; exact HL.out))
    by_cases hin : 148 ≤ k ∧ k < 156
    · have q1 : (148 : Int) ≤ (k : Int) := by omega
      have q2 : (k : Int) < 156 := by omega
      rw [sumH_in x HL.out hin.1 hin.2]
      generalize sumH bs = sm at *
      clear HS2 hin
      go_wp2_with fail
      refine (tlive_any w4).mono ?_
      rintro e w5 ⟨rfl, hB⟩
      have HB6 : Hid (Below w.heap.size w w5) := HB5.out.trans (hB.mono HB5.out.size)
      clear hB HB5
      go_wp2
      go_ret
      exact ⟨rfl, HB6.out⟩
    · have HD := hid (sumH_out (bs := bs) (k := k) x (by rw [HL.out]; exact hk5) (by omega))
      have hcase : ¬ (148 : Int) ≤ (k : Int) ∨ ((148 : Int) ≤ (k : Int) ∧ ¬ (k : Int) < 156) := by omega
      have hs1 := HS1.out
      have hs2 := HS2.out
      have hx0 := V_nonneg x
      have hx1 := V_lt x
      have hy0 := V_nonneg (bs.getD k 0)
      have hy1 := V_lt (bs.getD k 0)
      have HCk : Hid (∀ W, Below w.heap.size w W → ∃ b o, ao = some ⟨b, o, none⟩ ∧ W.cell? ⟨b, o + k, none⟩ = some (B (bs.getD k 0))) := fun W hW => by
        obtain ⟨ao', cap', e, r1, r2, r3, r4⟩ := HR.out.up hW
        simp only [Value.slice.injEq] at e
        obtain ⟨rfl, he, rfl⟩ := e
        cases ao with
        | none => have := r3 rfl; omega
        | some ad =>
          obtain ⟨b, o, rfl, -, hc⟩ := r4 ad rfl k (bs.getD k 0) (get_some (by omega))
          exact ⟨b, o, rfl, hc⟩
      generalize sumH (bs.set k x) = s2 at *
      generalize sumH bs = s1 at *
      generalize bs.getD k 0 = y at *
      have hsub : (s2 - s1 == V x - V y) = true := by rw [HD.out]; exact beq_self_eq_true _
      clear HS1 HS2 hin HD
      rcases hcase with q1 | ⟨q1, q2⟩
      all_goals
        go_wp2_with fail
        refine (tlive_any w4).mono ?_
        rintro e w5 ⟨rfl, hB⟩
        have HB6 : Hid (Below w.heap.size w w5) := HB5.out.trans (hB.mono HB5.out.size)
        clear hB HB5
        obtain ⟨b, o, rfl, hc⟩ := HCk.out w5 HB6.out
        clear HCk HR
        go_wp2
        go_ret
        exact ⟨rfl, HB6.out⟩
  · have h1 : ((bs.length : Int) != 512) = true := bne_iff_ne.2 (by omega)
    have HL := hid hl
    clear hl
    go_enter Try.func3, Try.ntmps3
    go_wp2_with fail
    refine (tlive_any w).mono ?_
    rintro e w1 ⟨rfl, hB1⟩
    have HB := hid hB1
    clear hB1
    go_wp2_with fail
    refine (sum_other ao bs.length cap w1 HL.out).mono ?_
    rintro e w2 ⟨rfl, rfl⟩
    go_wp2
    go_ret
    exact ⟨rfl, HB.out⟩
end Go.Proofs.Ytdfnhgkabaikaab
