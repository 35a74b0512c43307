/- The bytes of a deed: so many, all of one kind. -/
import Derived.Test.YtpkjpkjcdpgaaaaRepeat
namespace Go.Proofs.Ytpkjpkjcdpgaaaa
open Go.RowKit
/-- How many bytes a deed has. -/
def deedLen (l : Int) : Nat := if 0 ≤ l ∧ l ≤ 600 then l.toNat else 512
theorem infoU8 : (Try.prog.info? 5).map (fun i => (i.zero, i.size, i.bytes)) = some (some (.int .u8 0), 1, 1) := by kernel_rfl
theorem madeU8 (n : Nat) : madeCells (Value.int .u8 0).cells (n * 1) = (List.replicate n (Value.int .u8 0)).toArray := by
  apply Array.ext
  · simp [madeCells]
  · intro i h1 h2
    simp [madeCells, Value.cells, Nat.mod_one]
theorem wpList_make_u8 {w : World} {ops : Array Oper} {rest : List Oper} {o : Oper} {a : Act} {Q : Exit → Act → World → Prop} (hg : o.guard = none) (l c : Operand) (hop : o.op = Op.makeSlice 28 l c)
    (n : Nat) (x : Int) (hx : x = n) (hl : a.eval l = .int .i64 x) (hc : a.eval c = .int .i64 x) (hm : n ≤ 4096)
    (h : ∀ w1 : World, Below w.heap.size w w1 → w1.heap[w.heap.size]? = some (.cells (List.replicate n (Value.int .u8 0)).toArray 5 (0, 0)) → w1.heap.size = w.heap.size + 1 →
      wpList Try.prog ops Q rest (a.put o.dst (.slice (some ⟨w.heap.size, 0, none⟩) n n)) w1) : wpList Try.prog ops Q (o :: rest) a w := by
  subst hx
  obtain ⟨i, hi, hz, hs, hb⟩ := info_parts infoU8
  refine wpList_plain hg fun K hK' => ?_
  have hrun := run_make (P := Try.prog) w 28 5 i (.int .u8 0) Try.underlying28 hi hz .i64 .i64 n n (by omega) (by omega) (by rw [hb]; omega) (by omega)
  unfold Oper.wp
  simp only [Int.toNat_natCast, hs, madeU8] at hrun
  generalize (List.replicate n (Value.int .u8 0)).toArray = Z at *
  simp [execOp, hop, hl, hc, hrun, Result.andThen]
  exact hK' _ _ (h _ ((Below.refl _ _).alloc (Nat.le_refl _) _) (block_new _ _) (by simp))
theorem filled_set (x y : Value) (n k : Nat) (h : k < n) : (filled x y n k).set k x = filled x y n (k + 1) := by
  unfold filled
  rw [List.set_append_right _ _ (by simp)]
  have e : n - k = (n - (k + 1)) + 1 := by omega
  rw [e, List.replicate_succ]
  simp [List.replicate_succ', List.append_assoc]
set_option maxRecDepth 100000 in
set_option maxHeartbeats 1000000 in
theorem deed_bytes (f : Bool) (n l x : Int) (w : World) :
    Calls Try.prog 24 #[.agg #[.bool f, .int .i64 n, .int .i64 l, .int .u8 x]] w fun e w' => ∃ g, e = .returned (.slice (some ⟨g, 0, none⟩) (deedLen l) (deedLen l)) ∧ w.heap.size ≤ g ∧ w'.heap[g]? = some (.cells (List.replicate (deedLen l) (Value.int .u8 x)).toArray 5 (0, 0)) ∧ Below w.heap.size w w' := by
  have hk : deedLen l ≤ 600 := by unfold deedLen; split <;> omega
  have hcase : (0 ≤ l ∧ ¬ (600 < l) ∧ l = (deedLen l : Int)) ∨ (l < 0 ∧ deedLen l = 512) ∨ (¬ (l < 0) ∧ 600 < l ∧ deedLen l = 512) := by
    unfold deedLen
    by_cases h : 0 ≤ l ∧ l ≤ 600
    · rw [if_pos h]; left; omega
    · rw [if_neg h]; right; by_cases h0 : l < 0
      · exact .inl ⟨h0, rfl⟩
      · exact .inr ⟨h0, by omega, rfl⟩
  generalize deedLen l = k at *
  go_enter Try.func24, Try.ntmps24
  rcases hcase with ⟨h0, h6, hl⟩ | ⟨h0, hl⟩ | ⟨h0, h6, hl⟩
  all_goals
    have HL := hid hl
    clear hl
    go_wp2_with (refine wpList_make_u8 rfl (.tmp 14) (.tmp 14) rfl k _ (by have := HL.out; omega) rfl rfl (by omega) ?_; intro w1 hB1 hb1 hz1; have HB1 := hid hB1; have Hb1 := hid hb1; clear hB1 hb1 hz1)
    have hz : (w.alloc (.cells #[.bool f, .int .i64 n, .int .i64 l, .int .u8 x] 51)).heap.size = w.heap.size + 1 := by simp
    rw [hz] at HB1 Hb1
    have HD := hid (below_block HB1.out (block_new w (.cells #[.bool f, .int .i64 n, .int .i64 l, .int .u8 x] 51)) (by omega))
    have HB2 := hid (((Below.refl w.heap.size w).alloc (Nat.le_refl _) (.cells #[.bool f, .int .i64 n, .int .i64 l, .int .u8 x] 51)).trans (HB1.out.mono (by omega)))
    have Hb2 : Hid (w1.heap[w.heap.size + 1]? = some (.cells (filled (.int .u8 x) (.int .u8 0) k 0).toArray 5 (0, 0))) := by simpa [filled, Hid] using Hb1.out
    clear HB1 Hb1 hz
    go_loopw [5] (fun i wr => ∃ j : Nat, j ≤ k ∧ i = .int .i64 j ∧ Hid (wr.heap[w.heap.size + 1]? = some (.cells (filled (.int .u8 x) (.int .u8 0) k j).toArray 5 (0, 0))) ∧ Hid (Below w.heap.size w wr) ∧ Hid (wr.heap[w.heap.size]? = some (.cells #[.bool f, .int .i64 n, .int .i64 l, .int .u8 x] 51 (0, 0)))) (fun i _ => k - (intOf i).toNat)
    case atStart => exact ⟨0, by omega, rfl, Hb2, HB2, HD⟩
    case round =>
      obtain ⟨j, hj, rfl, hF, hB, hD⟩ := hrel
      clear Hb2 HB2 HD
      by_cases hlt : j < k
      · first | (have hjl : (j : Int) < l := by (have := HL.out; omega)) | skip
        first | (have hj5 : (j : Int) < 512 := by (have := HL.out; omega)) | skip
        have hj0 : (0 : Int) ≤ (j : Int) := by omega
        have hjk : (j : Int) < (k : Int) := by omega
        have cd : wr.cell? ⟨w.heap.size, 3, none⟩ = some (.int .u8 x) := by rw [cell_of_block hD.out]; rfl
        have ce : wr.cell? ⟨w.heap.size + 1, j, none⟩ = some ((filled (.int .u8 x) (.int .u8 0) k j)[j]'(by rw [length_filled _ _ _ _ hj]; exact hlt)) := by rw [cell_of_block hF.out, List.getElem?_toArray]; exact List.getElem?_eq_getElem _
        have fe : wr.frozen? ⟨w.heap.size + 1, j, none⟩ = false := frozen_of_block hF.out _
        have HS := hid (filled_set (.int .u8 x) (.int .u8 0) k j hlt)
        go_wp2
        go_roundw
        case rel =>
          refine ⟨j + 1, by omega, by go_num, ?_, hB.out.setCell (by simp) _, ?_⟩
          · rw [← HS.out]
            have := block_setCell hF.out j (.int .u8 x)
            rwa [List.setIfInBounds_toArray] at this
          · rw [block_setCell_other _ _ (by omega)]; exact hD.out
        case measure => simp [intOf]; omega
      · first | (have hjl : ¬ ((j : Int) < l) := by (have := HL.out; omega)) | skip
        first | (have hj5 : ¬ ((j : Int) < 512) := by (have := HL.out; omega)) | skip
        have hjk : j = k := by omega
        have hF' : wr.heap[w.heap.size + 1]? = some (.cells (List.replicate k (Value.int .u8 x)).toArray 5 (0, 0)) := by
          have := hF.out
          rw [hjk] at this
          simpa [filled] using this
        have HF := hid hF'
        clear hF' hjk
        go_wp2
        go_ret
        exact ⟨w.heap.size + 1, rfl, by omega, HF.out, hB.out⟩
end Go.Proofs.Ytpkjpkjcdpgaaaa
