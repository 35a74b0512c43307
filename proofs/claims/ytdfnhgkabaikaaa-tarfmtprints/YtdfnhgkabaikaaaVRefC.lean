/- The reference: octal, put, Sum. -/
import Derived.Test.YtdfnhgkabaikaaaVRefA
import Derived.Test.YtdfnhgkabaikaaaTSame
namespace Go.Proofs.Ytdfnhgkabaikaaa
open Go.RowKit
theorem wrt_next {L s : List UInt8} {a k : Nat} (ha : a + s.length ≤ L.length) (hk : k < s.length) : (wrt L a (s.take k)).set (a + k) (s.getD k 0) = wrt L a (s.take (k + 1)) := by
  have hlk : (s.take k).length = k := by rw [List.length_take]; omega
  have hlk1 : (s.take (k + 1)).length = k + 1 := by rw [List.length_take]; omega
  have hla : (L.take a).length = a := by rw [List.length_take]; omega
  unfold wrt
  rw [hlk, hlk1, List.append_assoc, List.set_append_right _ _ (by omega), hla, Nat.add_sub_cancel_left, List.set_append_right _ _ (by omega), hlk, Nat.sub_self, List.drop_eq_getElem_cons (by omega), List.set_cons_zero, List.take_succ_eq_append_getElem hk, List.append_assoc, List.append_assoc]
  have : s.getD k 0 = s[k] := by rw [List.getD_eq_getElem?_getD, List.getElem?_eq_getElem hk]; rfl
  rw [this]
  rfl
set_option maxHeartbeats 2000000 in
set_option maxRecDepth 100000 in
theorem foctal_any (m n : Nat) (w : World) (hm : m ≤ 11) (hm1 : 1 ≤ m) (hn : n ≤ 8589934592) :
    Calls Try.prog 34 #[.int .i64 n, .int .i64 ((m : Int) + 1)] w fun e w' => e = .returned (.slice (some ⟨w.heap.size, 0, none⟩) (m + 1) (m + 1)) ∧ Below w.heap.size w w' ∧ blkB w' w.heap.size (oct n m ++ [0]) := by
  have HM := hid hm
  have HN := hid hn
  have q1 : (m : Int) ≤ 11 := by omega
  have q11 : (1 : Int) ≤ (m : Int) := by omega
  clear hm hn
  go_enter Try.func34, Try.ntmps34
  go_wp2_with (refine wpList_make_bytes rfl (.tmp 7) (.tmp 7) 23 rfl 5 Try.underlying23 infoU ((m : Int) + 1) ((m : Int) + 1) (m + 1) (m + 1) rfl rfl rfl rfl (Nat.le_refl _) (by omega) ?_; intro w1 hB1 hb1 hs1; have HB1 := hid hB1; have HBl := hid hb1; clear hB1 hb1 hs1)
  have HO : Hid ((List.replicate (m + 1) (0 : UInt8)).length = m + 1) := List.length_replicate
  have HZ : Hid ((List.replicate (m + 1) (0 : UInt8)).drop m = [0]) := by unfold Hid; rw [List.drop_replicate, Nat.add_sub_cancel_left]; rfl
  generalize List.replicate (m + 1) (0 : UInt8) = L at *
  obtain ⟨g, hg⟩ : ∃ g, g = w.heap.size := ⟨_, rfl⟩
  have HG := hid hg
  rw [← hg]
  clear hg
  go_loopw [0, 6] (fun x i wr => ∃ j : Nat, j ≤ m ∧ x = .int .i64 ((n / 8 ^ (m - j) : Nat) : Int) ∧ i = .int .i64 ((j : Int) - 1) ∧ Hid (blkB wr g (L.take (0 + j) ++ (oct n m).drop j ++ L.drop (0 + m)) ∧ Below g w wr)) (fun _ i _ => (intOf i + 1).toNat)
  case atStart => exact ⟨m, by omega, by simp, by congr 1; omega, ⟨by rw [List.drop_of_length_le (by rw [length_oct]; exact Nat.le_refl _), List.append_nil, List.take_append_drop]; have := HBl.out; rw [← HG.out] at this; exact this, by have := HB1.out; rw [← HG.out] at this; exact this⟩⟩
  case round =>
    obtain ⟨j, hj, rfl, rfl, hI⟩ := hrel
    cases j with
    | zero =>
      have hE : (((0 : Nat) : Int) - 1) = -1 := rfl
      rw [hE]
      have HR : Hid (blkB wr g (oct n m ++ [0]) ∧ Below g w wr) := by
        obtain ⟨hb, hB⟩ := hI.out
        rw [Nat.add_zero, List.drop_zero, List.take_zero, List.nil_append, Nat.zero_add, HZ.out] at hb
        exact ⟨hb, hB⟩
      clear hI
      go_wp2
      go_ret
      rw [← HG.out]
      exact ⟨rfl, HR.out.2, HR.out.1⟩
    | succ j =>
      obtain ⟨hb, hB⟩ := hI.out
      have hE : (((j + 1 : Nat) : Int) - 1) = (j : Int) := by omega
      rw [hE]
      have hl : (L.take (0 + (j + 1)) ++ (oct n m).drop (j + 1) ++ L.drop (0 + m)).length = L.length := by rw [List.length_append, List.length_append, List.length_take, List.length_drop, List.length_drop, length_oct]; have := HO.out; omega
      have c1 := hb.cell (0 + j) (by rw [hl]; have := HO.out; omega)
      have f1 := frozen_of_block hb (0 + j)
      obtain ⟨x, hx⟩ : ∃ x, x = n / 8 ^ (m - (j + 1)) := ⟨_, rfl⟩
      have hat := oct_at m n j (by omega)
      rw [show m - 1 - j = m - (j + 1) by omega, ← hx] at hat
      have HR : Hid (blkB (wr.setCell ⟨g, j, none⟩ (B (UInt8.ofNat (48 + x % 8)))) g (L.take (0 + j) ++ (oct n m).drop j ++ L.drop (0 + m)) ∧ Below g w (wr.setCell ⟨g, j, none⟩ (B (UInt8.ofNat (48 + x % 8))))) := by
        have := hb.set (0 + j) (UInt8.ofNat (48 + x % 8))
        rw [put_step L (oct n m) 0 m j (by omega) (length_oct m n) (by have := HO.out; omega) _ hat, Nat.zero_add] at this
        refine ⟨?_, hB.setCell (Nat.le_refl _) _⟩
        rw [Nat.zero_add j]
        exact this
      rw [Nat.zero_add j] at c1 f1
      have HX : Hid (n / 8 ^ (m - j) = x / 8) := by
        unfold Hid
        rw [hx, Nat.div_div_eq_div_mul, show m - j = (m - (j + 1)) + 1 by omega, Nat.pow_succ]
      have hxn : x ≤ 8589934592 := by rw [hx]; exact Nat.le_trans (Nat.div_le_self _ _) HN.out
      have HV := hid (V_digit x)
      generalize UInt8.ofNat (48 + x % 8) = y at *
      rw [← hx]
      have q2 : (0 : Int) ≤ (j : Int) := by omega
      have q3 : (j : Int) < (m : Int) + 1 := by omega
      have q4 : (j : Int) ≥ 0 := by omega
      have q5 : (0 : Int) ≤ (x : Int) := by omega
      generalize (L.take (0 + (j + 1)) ++ (oct n m).drop (j + 1) ++ L.drop (0 + m)).getD j 0 = z at *
      clear hb hB hI hl hat hx
      go_wp2
      have hval : Value.int .u8 (48 + (x : Int) % 8) = B y := by show _ = Value.int .u8 (V y); rw [HV.out]; rfl
      rw [hval]
      exact ⟨⟨j, by omega, by rw [HX.out]; rfl, rfl, HR.out⟩, by simp [intOf]⟩
set_option maxHeartbeats 1000000 in
set_option maxRecDepth 100000 in
theorem fput_any (g N a : Nat) (L s : List UInt8) (w : World) (hb : blkB w g L) (hN : L.length = N) (ha : a + s.length ≤ N) (hmx : N ≤ 60000) :
    Calls Try.prog 33 #[.slice (some ⟨g, 0, none⟩) N N, .int .i64 (a : Nat), str s] w fun e w' => (∃ v, e = .returned v) ∧ blkB w' g (wrt L a s) ∧ w.grownBy w' (some g) ∧ w'.heap.size = w.heap.size := by
  have hsz := size_str s
  have HB := hid hb
  have HN := hid hN
  have HA := hid ha
  have hmx' : (N : Int) ≤ 60000 := by omega
  have q0 : (a : Int) + (s.length : Int) ≤ (N : Int) := by omega
  clear hb hN ha hmx
  go_enter Try.func33, Try.ntmps33
  go_wp2
  go_loopw [6] (fun i wr => ∃ k : Nat, k ≤ s.length ∧ i = .int .i64 k ∧ Hid (blkB wr g (wrt L a (s.take k)) ∧ w.grownBy wr (some g) ∧ wr.heap.size = w.heap.size)) (fun i _ => s.length - (intOf i).toNat)
  case atStart => exact ⟨0, by omega, rfl, ⟨by unfold wrt; rw [List.take_zero, List.append_nil, List.length_nil, Nat.add_zero, List.take_append_drop]; exact HB.out, grown_refl _ _, rfl⟩⟩
  case round =>
    obtain ⟨k, hk, rfl, hI⟩ := hrel
    by_cases hlt : k < s.length
    · obtain ⟨hb, hg, hs⟩ := hI.out
      have hl : (wrt L a (s.take k)).length = N := by rw [length_wrt (by rw [List.length_take]; have := HA.out; have := HN.out; omega), HN.out]
      have c1 := hb.cell (a + k) (by rw [hl]; have := HA.out; omega)
      have f1 := frozen_of_block hb (a + k)
      have HR : Hid (blkB (wr.setCell ⟨g, a + k, none⟩ (B (s.getD k 0))) g (wrt L a (s.take (k + 1))) ∧ w.grownBy (wr.setCell ⟨g, a + k, none⟩ (B (s.getD k 0))) (some g) ∧ (wr.setCell ⟨g, a + k, none⟩ (B (s.getD k 0))).heap.size = w.heap.size) := by
        refine ⟨?_, grown_setCell hg (a + k) _, by rw [World.size_setCell, hs]⟩
        have := hb.set (a + k) (s.getD k 0)
        rw [wrt_next (by have := HA.out; have := HN.out; omega) hlt] at this
        exact this
      have q1 : (k : Int) < (s.length : Int) := by omega
      have q2 : (0 : Int) ≤ (k : Int) := by omega
      have q3 : (0 : Int) ≤ (a : Int) + (k : Int) := by omega
      have q4 : (a : Int) + (k : Int) < (N : Int) := by omega
      have q5 : ((a : Int) + (k : Int)).toNat = a + k := by omega
      have hix : ∀ W, (Instr.index 9 (str s) (.int .i64 (k : Int))).run Try.prog W = .ok (B (s.getD k 0)) W := fun W => run_index_str s (k : Int) W (by omega) (by omega)
      generalize s.getD k 0 = x at *
      generalize (wrt L a (s.take k)).getD (a + k) 0 = z at *
      clear hb hg hs hI hl
      go_wp2
      exact ⟨⟨k + 1, by omega, by go_num, HR⟩, by simp [intOf]; omega⟩
    · have q1 : ¬ ((k : Int) < (s.length : Int)) := by omega
      have HR : Hid (blkB wr g (wrt L a s) ∧ w.grownBy wr (some g) ∧ wr.heap.size = w.heap.size) := by
        have := hI.out
        rwa [List.take_of_length_le (by omega)] at this
      clear hI
      go_wp2
      go_end0
      exact ⟨⟨_, rfl⟩, HR.out⟩
/-- The sum of the first k bytes, those of the sum's own place as blanks. -/
def sumI (bs : List UInt8) : Nat → Int
  | 0 => 0
  | k + 1 => sumI bs k + (if 148 ≤ k ∧ k < 156 then 32 else V (bs.getD k 0))
theorem sumI_eq (bs : List UInt8) (hl : bs.length = 512) : ∀ k, k ≤ 512 → sumI bs k = (total (bs.take k) : Int) + (((min k 156 - 148) * 32 : Nat) : Int) - (total (fld bs 148 (min k 156 - 148)) : Int)
  | 0, _ => by simp [sumI, total, fld]
  | k + 1, hk => by
    have ih := sumI_eq bs hl k (by omega)
    have h1 := total_take (bs := bs) (k := k) (by omega)
    rw [sumI, ih, h1]
    have hV : V (bs.getD k 0) = ((bs.getD k 0).toNat : Int) := rfl
    by_cases hc : 148 ≤ k ∧ k < 156
    · rw [if_pos hc]
      obtain ⟨c, rfl⟩ : ∃ c, k = 148 + c := ⟨k - 148, by omega⟩
      have e1 : min (148 + c) 156 - 148 = c := by omega
      have e2 : min (148 + c + 1) 156 - 148 = c + 1 := by omega
      rw [e1, e2]
      have h2 := total_take (bs := bs.drop 148) (k := c) (by rw [List.length_drop]; omega)
      have h3 : (bs.drop 148).getD c 0 = bs.getD (148 + c) 0 := by rw [List.getD_eq_getElem?_getD, List.getElem?_drop, ← List.getD_eq_getElem?_getD]
      rw [h3] at h2
      unfold fld
      rw [h2]
      omega
    · rw [if_neg hc, hV]
      have e2 : min (k + 1) 156 - 148 = min k 156 - 148 := by omega
      rw [e2]
      omega
theorem sumI_all (bs : List UInt8) (hl : bs.length = 512) : sumI bs 512 = sumH bs := by
  rw [sumI_eq bs hl 512 (Nat.le_refl _), List.take_of_length_le (by omega)]
  unfold sumH
  have e1 : min 512 156 - 148 = 8 := by omega
  rw [e1]
  omega
theorem sumI_bound (bs : List UInt8) : ∀ k, 0 ≤ sumI bs k ∧ sumI bs k ≤ 256 * k
  | 0 => by simp [sumI]
  | k + 1 => by
    have ih := sumI_bound bs k
    have h0 := V_nonneg (bs.getD k 0)
    have h1 := V_lt (bs.getD k 0)
    rw [sumI]
    split <;> omega
set_option maxHeartbeats 1000000 in
set_option maxRecDepth 100000 in
theorem fSum_any (bs : List UInt8) (v : Value) (w : World) (hr : Rd w v bs) :
    Calls Try.prog 16 #[v] w fun e w' => e = .returned (.int .i64 (if bs.length = 512 then sumH bs else 0)) ∧ w' = w := by
  have HR := hid hr
  obtain ⟨ao, cap, rfl, -⟩ := hr
  by_cases hl : bs.length = 512
  · rw [if_pos hl, ← sumI_all bs hl]
    rw [hl] at HR ⊢
    have HL := hid hl
    clear hl
    go_enter Try.func16, Try.ntmps16
    go_wp2
    go_loopw [3, 4] (fun x i wr => ∃ k : Nat, k ≤ 512 ∧ x = .int .i64 (sumI bs k) ∧ i = .int .i64 k ∧ wr = w) (fun _ i _ => 512 - (intOf i).toNat)
    case atStart => exact ⟨0, by omega, rfl, rfl, rfl⟩
    case round =>
      obtain ⟨k, hk, rfl, rfl, rfl⟩ := hrel
      have hbd := sumI_bound bs k
      by_cases hlt : k < 512
      · have hk0 : (0 : Int) ≤ (k : Int) := by omega
        have hk1 : (k : Int) < 512 := by omega
        obtain ⟨b, o, rfl, -, c1⟩ := HR.out.at (k := k) (by rw [HL.out]; exact hlt)
        have HS : Hid (sumI bs (k + 1) = sumI bs k + (if 148 ≤ k ∧ k < 156 then 32 else V (bs.getD k 0))) := rfl
        have hx0 := V_nonneg (bs.getD k 0)
        have hx1 := V_lt (bs.getD k 0)
        have hb2 : sumI bs k ≤ 131072 := by omega
        have hb3 : 0 ≤ sumI bs k := hbd.1
        clear hbd
        generalize bs.getD k 0 = x at *
        generalize sumI bs k = sk at *
        by_cases hc : 148 ≤ k ∧ k < 156
        · rw [if_pos hc] at HS
          have q1 : (148 : Int) ≤ (k : Int) := by omega
          have q2 : (k : Int) < 156 := by omega
          have q3 : (k : Int) ≥ 148 := by omega
          clear hc
          go_wp2
          exact ⟨⟨k + 1, by omega, by rw [HS.out], by go_num, trivial⟩, by simp [intOf]; omega⟩
        · rw [if_neg hc] at HS
          have hcase : ¬ (k : Int) ≥ 148 ∨ ((k : Int) ≥ 148 ∧ ¬ (k : Int) < 156) := by omega
          clear hc
          rcases hcase with q1 | ⟨q1, q2⟩
          all_goals
            go_wp2
            exact ⟨⟨k + 1, by omega, by rw [HS.out], by go_num, trivial⟩, by simp [intOf]; omega⟩
      · obtain rfl : k = 512 := by omega
        go_wp2
        go_ret
        exact ⟨rfl, rfl⟩
  · rw [if_neg hl]
    have h1 : ((bs.length : Int) != 512) = true := bne_iff_ne.2 (by omega)
    go_enter Try.func16, Try.ntmps16
    go_wp2
    go_ret
    exact ⟨rfl, rfl⟩
end Go.Proofs.Ytdfnhgkabaikaaa
