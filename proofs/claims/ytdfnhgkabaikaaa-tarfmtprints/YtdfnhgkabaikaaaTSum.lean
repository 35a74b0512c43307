/- Sum. -/
import Derived.Test.YtdfnhgkabaikaaaTCut
import Derived.Test.YtdfnhgkabaikaaaTText
namespace Go.Proofs.Ytdfnhgkabaikaaa
open Go.RowKit
theorem total_snoc (bs : List UInt8) (d : UInt8) : total (bs ++ [d]) = total bs + d.toNat := by simp [total]
theorem total_take {bs : List UInt8} {k : Nat} (hk : k < bs.length) : total (bs.take (k + 1)) = total (bs.take k) + (bs.getD k 0).toNat := by
  rw [List.take_succ_eq_append_getElem hk, total_snoc, List.getD_eq_getElem?_getD, List.getElem?_eq_getElem hk]; rfl
theorem total_foldl : ∀ (bs : List UInt8) (n : Nat), bs.foldl (fun n d => n + d.toNat) n ≤ n + 255 * bs.length
  | [], n => by simp
  | d :: bs, n => by
    have := total_foldl bs (n + d.toNat)
    have hd := d.toNat_lt
    rw [List.foldl_cons, List.length_cons]
    omega
theorem total_le (bs : List UInt8) : total bs ≤ 255 * bs.length := by have := total_foldl bs 0; unfold total; omega
set_option maxRecDepth 100000 in
theorem run_field_sum (b o : Nat) (W : World) : (Instr.field 53 (.agg (hdA b o)) 6).run Try.prog W = .ok (sl b (o + 148) 8) W := by
  unfold hdA
  simp [Instr.field, go_sem, asAgg]
set_option maxHeartbeats 2000000 in
set_option maxRecDepth 100000 in
theorem sum_512 (bs : List UInt8) (b o c : Nat) (w : World) (hl : bs.length = 512) (h : byAt w b o bs) :
    Calls Try.prog 15 #[.slice (some ⟨b, o, none⟩) 512 (c + 512)] w fun e w' => e = .returned (.int .i64 (sumH bs)) ∧ Below w.heap.size w w' := by
  have H := hid h
  have HL := hid hl
  clear h hl
  go_enter Try.func15, Try.ntmps15
  go_wp2
  go_loopw [3, 13] (fun x i wr => ∃ k : Nat, k ≤ 512 ∧ x = .int .i64 ((total (bs.take k) : Nat) : Int) ∧ i = .int .i64 k ∧ wr = w) (fun _ i _ => 512 - (intOf i).toNat)
  case atStart => exact ⟨0, by omega, rfl, rfl, rfl⟩
  case round =>
    obtain ⟨k, hk, rfl, rfl, rfl⟩ := hrel
    by_cases hlt : k < 512
    · have hk0 : (0 : Int) ≤ (k : Int) := by omega
      have hk1 : (k : Int) < 512 := by omega
      have c1 := H.out k (by rw [HL.out]; exact hlt)
      have HT := hid (total_take (bs := bs) (k := k) (by rw [HL.out]; exact hlt))
      have hb : total (bs.take k) ≤ 130560 := by have := total_le (bs.take k); rw [List.length_take] at this; omega
      have hx0 := V_nonneg (bs.getD k 0)
      have hx1 := V_lt (bs.getD k 0)
      have HV : Hid (V (bs.getD k 0) = ((bs.getD k 0).toNat : Int)) := rfl
      generalize bs.getD k 0 = x at *
      generalize total (bs.take k) = n at *
      go_wp2
      exact ⟨⟨k + 1, by omega, by rw [HT.out, HV.out]; simp, by go_num, trivial⟩, by simp [intOf]; omega⟩
    · obtain rfl : k = 512 := by omega
      have hT : total (bs.take 512) = total bs := by rw [List.take_of_length_le (by rw [HL.out]; exact Nat.le_refl _)]
      rw [hT]
      have hb : total bs ≤ 130560 := by have := total_le bs; rw [HL.out] at this; omega
      clear hT
      go_wp2_with fail
      refine (cut_any b o c wr).mono ?_
      rintro e w1 ⟨rfl, hB⟩
      have HB := hid hB
      have hf := (H.out.sub 148 8).up hB
      have H8 := hid hf
      have HL8 : Hid ((fld bs 148 8).length = 8) := length_fld bs 148 8 (by rw [HL.out]; omega)
      have HE : Hid (sumH bs = (total bs : Int) + (8 * 32 - (total (fld bs 148 8) : Int))) := rfl
      generalize fld bs 148 8 = f at *
      generalize total bs = t at *
      clear hB hf
      have hfl := run_field_sum b o
      unfold hdV
      go_wp2
      go_loopw [3, 26] (fun x i wr => ∃ k : Nat, k ≤ 8 ∧ x = .int .i64 ((t : Int) + (k * 32 - (total (f.take k) : Int))) ∧ i = .int .i64 k ∧ wr = w1) (fun _ i _ => 8 - (intOf i).toNat)
      case atStart => exact ⟨0, by omega, by simp [total], rfl, rfl⟩
      case round =>
        obtain ⟨k, hk, rfl, rfl, rfl⟩ := hrel
        by_cases hlt : k < 8
        · have hk0 : (0 : Int) ≤ (k : Int) := by omega
          have hk1 : (k : Int) < 8 := by omega
          have c1 := H8.out k (by rw [HL8.out]; exact hlt)
          have HT := hid (total_take (bs := f) (k := k) (by rw [HL8.out]; exact hlt))
          have hb2 : total (f.take k) ≤ 2040 := by have := total_le (f.take k); rw [List.length_take] at this; omega
          have hx0 := V_nonneg (f.getD k 0)
          have hx1 := V_lt (f.getD k 0)
          have HV : Hid (V (f.getD k 0) = ((f.getD k 0).toNat : Int)) := rfl
          generalize f.getD k 0 = x at *
          generalize total (f.take k) = n at *
          go_wp2
          exact ⟨⟨k + 1, by omega, by rw [HT.out, HV.out]; congr 1; omega, by go_num, trivial⟩, by simp [intOf]; omega⟩
        · obtain rfl : k = 8 := by omega
          have HT : Hid (total (f.take 8) = total f) := by unfold Hid; rw [List.take_of_length_le (by rw [HL8.out]; exact Nat.le_refl _)]
          go_wp2
          go_ret
          exact ⟨by rw [HE.out, ← HT.out]; rfl, HB.out⟩
end Go.Proofs.Ytdfnhgkabaikaaa
