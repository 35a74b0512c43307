/- putNumber. -/
import Derived.Test.YtdfnhgkabaikaaaTCut
import Derived.Test.YtdfnhgkabaikaaaTSmall
namespace Go.Proofs.Ytdfnhgkabaikaaa
open Go.RowKit
/-- k digits of a number. -/
def oct (n : Nat) : Nat → List UInt8
  | 0 => []
  | k + 1 => oct (n / 8) k ++ [UInt8.ofNat (48 + n % 8)]
theorem length_oct : ∀ (k n : Nat), (oct n k).length = k
  | 0, _ => rfl
  | k + 1, n => by rw [oct, List.length_append, length_oct k]; rfl
theorem oct_at : ∀ (k n r : Nat), r < k → (oct n k)[r]? = some (UInt8.ofNat (48 + n / 8 ^ (k - 1 - r) % 8))
  | 0, _, r, h => by omega
  | k + 1, n, r, h => by
    rw [oct]
    by_cases e : r = k
    · subst e
      rw [List.getElem?_append_right (by rw [length_oct]; exact Nat.le_refl _), length_oct]
      simp
    · rw [List.getElem?_append_left (by rw [length_oct]; omega), oct_at k (n / 8) r (by omega), Nat.div_div_eq_div_mul]
      have : 8 * 8 ^ (k - 1 - r) = 8 ^ (k + 1 - 1 - r) := by
        rw [show k + 1 - 1 - r = (k - 1 - r) + 1 by omega, Nat.pow_succ, Nat.mul_comm]
      rw [this]
/-- Bytes over bytes. -/
def wrt (L : List UInt8) (o : Nat) (s : List UInt8) : List UInt8 := L.take o ++ s ++ L.drop (o + s.length)
theorem length_wrt {L s : List UInt8} {o : Nat} (h : o + s.length ≤ L.length) : (wrt L o s).length = L.length := by
  unfold wrt; rw [List.length_append, List.length_append, List.length_take, List.length_drop]; omega
/-- A block that holds bytes. -/
def blkB (w : World) (g : Nat) (L : List UInt8) : Prop := w.heap[g]? = some (.cells (L.map B).toArray 5 (0, 0))
theorem blkB.set {w : World} {g : Nat} {L : List UInt8} (h : blkB w g L) (k : Nat) (x : UInt8) : blkB (w.setCell ⟨g, k, none⟩ (B x)) g (L.set k x) := by
  unfold blkB; rw [block_setCell h, set_mapB]
theorem blkB.cell {w : World} {g : Nat} {L : List UInt8} (h : blkB w g L) (k : Nat) (hk : k < L.length) : w.cell? ⟨g, k, none⟩ = some (B (L.getD k 0)) := by
  rw [cell_of_block h]
  simp only [List.getElem?_toArray, List.getElem?_map, get_some (d := (0 : UInt8)) hk]
  rfl
theorem put_step (L B : List UInt8) (o k r : Nat) (hr : r < k) (hB : B.length = k) (hk : o + k ≤ L.length) (v : UInt8) (hv : B[r]? = some v) :
    (L.take (o + (r + 1)) ++ B.drop (r + 1) ++ L.drop (o + k)).set (o + r) v = L.take (o + r) ++ B.drop r ++ L.drop (o + k) := by
  have h1 : L.take (o + (r + 1)) = L.take (o + r) ++ [L[o + r]'(by omega)] := by rw [show o + (r + 1) = o + r + 1 by omega, List.take_succ_eq_append_getElem (by omega)]
  have h2 : B.drop r = v :: B.drop (r + 1) := by
    obtain ⟨hl, e⟩ := List.getElem?_eq_some_iff.1 hv
    rw [List.drop_eq_getElem_cons hl, e]
  rw [h1, h2, List.append_assoc, List.append_assoc, List.set_append_right _ _ (by rw [List.length_take]; omega)]
  simp [List.length_take, Nat.min_eq_left (show o + r ≤ L.length by omega)]
theorem put_last (L D : List UInt8) (o m : Nat) (hD : D.length = m) (hk : o + m < L.length) : (L.take o ++ D ++ L.drop (o + m)).set (o + m) 0 = wrt L o (D ++ [0]) := by
  unfold wrt
  rw [List.drop_eq_getElem_cons hk, List.set_append_right _ _ (by rw [List.length_append, List.length_take]; omega), List.length_append, List.length_take, Nat.min_eq_left (by omega), hD, Nat.sub_self, List.set_cons_zero, List.length_append, hD]
  simp [Nat.add_assoc]
theorem V_digit (n : Nat) : V (UInt8.ofNat (48 + n % 8)) = 48 + ((n % 8 : Nat) : Int) := by
  unfold V; rw [UInt8.toNat_ofNat']; omega
set_option maxHeartbeats 2000000 in
set_option maxRecDepth 100000 in
theorem putNumber_any (g o m n : Nat) (L : List UInt8) (w : World) (hm : m ≤ 11) (hn : n ≤ 8589934592) (hb : blkB w g L) (ho : o + (m + 1) ≤ L.length) :
    Calls Try.prog 32 #[sl g o (m + 1), .int .i64 n] w fun e w' => (∃ v, e = .returned v) ∧ blkB w' g (wrt L o (oct n m ++ [0])) ∧ w.grownBy w' (some g) ∧ w'.heap.size = w.heap.size := by
  have HB := hid hb
  have HO := hid ho
  have HM := hid hm
  have HN := hid hn
  have q1 : (m : Int) ≤ 11 := by omega
  clear hb ho hm hn
  go_enter Try.func32, Try.ntmps32
  go_wp2
  go_loopw [1, 5] (fun x i wr => ∃ j : Nat, j ≤ m ∧ x = .int .i64 ((n / 8 ^ (m - j) : Nat) : Int) ∧ i = .int .i64 ((j : Int) - 1) ∧ Hid (blkB wr g (L.take (o + j) ++ (oct n m).drop j ++ L.drop (o + m)) ∧ w.grownBy wr (some g) ∧ wr.heap.size = w.heap.size)) (fun _ i _ => (intOf i + 1).toNat)
  case atStart => exact ⟨m, by omega, by simp, rfl, ⟨by rw [List.drop_of_length_le (by rw [length_oct]; exact Nat.le_refl _), List.append_nil, List.take_append_drop]; exact HB.out, grown_refl _ _, rfl⟩⟩
  case round =>
    obtain ⟨j, hj, rfl, rfl, hI⟩ := hrel
    cases j with
    | zero =>
      have hE : (((0 : Nat) : Int) - 1) = -1 := rfl
      rw [hE]
      obtain ⟨hb, hg, hs⟩ := hI.out
      rw [Nat.add_zero, List.drop_zero] at hb
      have hl : (L.take o ++ oct n m ++ L.drop (o + m)).length = L.length := by rw [List.length_append, List.length_append, List.length_take, List.length_drop, length_oct]; have := HO.out; omega
      have c1 := hb.cell (o + m) (by rw [hl]; have := HO.out; omega)
      have f1 := frozen_of_block hb (o + m)
      have HR : Hid (blkB (wr.setCell ⟨g, o + m, none⟩ (B 0)) g (wrt L o (oct n m ++ [0]))) := by
        have := hb.set (o + m) 0
        rw [put_last L (oct n m) o m (length_oct m n) (by have := HO.out; omega)] at this
        exact this
      have HG := hid (grown_setCell hg (o + m) (B 0))
      have HSz : Hid ((wr.setCell ⟨g, o + m, none⟩ (B 0)).heap.size = w.heap.size) := by unfold Hid; rw [World.size_setCell, hs]
      have q2 : (0 : Int) ≤ (m : Int) := by omega
      have q3 : (m : Int) < (m : Int) + 1 := by omega
      generalize (L.take o ++ oct n m ++ L.drop (o + m)).getD (o + m) 0 = x at *
      clear hb hg hs hI hl
      go_wp2
      go_end0
      exact ⟨⟨_, rfl⟩, HR.out, HG.out, HSz.out⟩
    | succ j =>
      obtain ⟨hb, hg, hs⟩ := hI.out
      have hE : (((j + 1 : Nat) : Int) - 1) = (j : Int) := by omega
      rw [hE]
      have hl : (L.take (o + (j + 1)) ++ (oct n m).drop (j + 1) ++ L.drop (o + m)).length = L.length := by rw [List.length_append, List.length_append, List.length_take, List.length_drop, List.length_drop, length_oct]; have := HO.out; omega
      have c1 := hb.cell (o + j) (by rw [hl]; have := HO.out; omega)
      have f1 := frozen_of_block hb (o + j)
      obtain ⟨x, hx⟩ : ∃ x, x = n / 8 ^ (m - (j + 1)) := ⟨_, rfl⟩
      have hat := oct_at m n j (by omega)
      rw [show m - 1 - j = m - (j + 1) by omega, ← hx] at hat
      have HR : Hid (blkB (wr.setCell ⟨g, o + j, none⟩ (B (UInt8.ofNat (48 + x % 8)))) g (L.take (o + j) ++ (oct n m).drop j ++ L.drop (o + m))) := by
        have := hb.set (o + j) (UInt8.ofNat (48 + x % 8))
        rw [put_step L (oct n m) o m j (by omega) (length_oct m n) (by have := HO.out; omega) _ hat] at this
        exact this
      have HG := hid (grown_setCell hg (o + j) (B (UInt8.ofNat (48 + x % 8))))
      have HSz : Hid ((wr.setCell ⟨g, o + j, none⟩ (B (UInt8.ofNat (48 + x % 8)))).heap.size = w.heap.size) := by unfold Hid; rw [World.size_setCell, hs]
      have HX : Hid (n / 8 ^ (m - j) = x / 8) := by
        unfold Hid
        rw [hx, Nat.div_div_eq_div_mul, show m - j = (m - (j + 1)) + 1 by omega, Nat.pow_succ]
      have hxn : x ≤ 8589934592 := by rw [hx]; exact Nat.le_trans (Nat.div_le_self _ _) HN.out
      have HV := hid (V_digit x)
      generalize UInt8.ofNat (48 + x % 8) = y at *
      rw [← hx]
      have q2 : (0 : Int) ≤ (j : Int) := by omega
      have q3 : (j : Int) < (m : Int) + 1 := by omega
      have q4 : (j : Int) ≥ 0 := by omega
      have q5 : (0 : Int) ≤ (x : Int) := by omega
      generalize (L.take (o + (j + 1)) ++ (oct n m).drop (j + 1) ++ L.drop (o + m)).getD (o + j) 0 = z at *
      clear hb hg hs hI hl hat hx
      go_wp2
      have hval : Value.int .u8 (48 + (x : Int) % 8) = B y := by show _ = Value.int .u8 (V y); rw [HV.out]; rfl
      rw [hval]
      exact ⟨⟨j, by omega, by rw [HX.out]; rfl, rfl, HR.out, HG.out, HSz.out⟩, by simp [intOf]⟩
end Go.Proofs.Ytdfnhgkabaikaaa
