/- The reference's New. -/
import Derived.Test.YtplcljcpekphnaaRef3
namespace Go.Proofs.Ytplcljcpekphnaa
open Go.RowKit
/-- A sector of noughts. -/
def zeros : List UInt8 := List.replicate 512 0
def rfresh (n : Nat) : RefS := ⟨List.replicate n zeros, []⟩
theorem length_zeros : zeros.length = 512 := List.length_replicate
theorem zeros_at (z : Nat) (h : z < zeros.length) : zeros[z] = 0 := List.getElem_replicate h
theorem rfresh_length (n : Nat) : (rfresh n).first.length = n := List.length_replicate
theorem rfresh_at (n i : Nat) (h : i < (rfresh n).first.length) : (rfresh n).first[i] = zeros := List.getElem_replicate h
theorem wp_make_u8 {w : World} {o : Oper} {a : Act} {K : Act → World → Prop} {Q : Exit → Act → World → Prop} (l c : Operand) (hop : o.op = Op.makeSlice 26 l c) (n : Nat) (hl : a.eval l = .int .i64 n) (hc : a.eval c = .int .i64 n) (hm : n ≤ 4096) (B : Nat) (hB : w.heap.size = B)
    (h : K (a.put o.dst (.slice (some ⟨B, 0, none⟩) n n)) (w.alloc (.cells (List.replicate n (Value.int .u8 0)).toArray 5))) : o.wp Try.prog a w K Q := by
  subst hB
  obtain ⟨i, hi, hz, hs, hb⟩ := info_parts infoU8
  have hrun := run_make (P := Try.prog) w 26 5 i (.int .u8 0) Try.underlying26 hi hz .i64 .i64 n n (by omega) (by omega) (by rw [hb]; omega) (by omega)
  unfold Oper.wp
  simp only [Int.toNat_natCast, hs, madeU8] at hrun
  generalize (List.replicate n (Value.int .u8 0)).toArray = Z at *
  simp [execOp, hop, hl, hc, hrun, Result.andThen]
  exact h
/-- The cells of a sector of noughts. -/
def zrow : Array Value := (List.replicate 512 (Value.int .u8 0)).toArray
theorem zrow_at (z : Nat) (h : z < 512) : zrow[z]? = some (.int .u8 0) := by
  unfold zrow; rw [List.getElem?_toArray, List.getElem?_replicate, if_pos h]
theorem wp_make_sector {w : World} {o : Oper} {a : Act} {K : Act → World → Prop} {Q : Exit → Act → World → Prop} (l c : Operand) (hop : o.op = Op.makeSlice 26 l c) (hl : a.eval l = .int .i64 512) (hc : a.eval c = .int .i64 512) (B : Nat) (hB : w.heap.size = B)
    (h : K (a.put o.dst (.slice (some ⟨B, 0, none⟩) 512 512)) (w.alloc (.cells zrow 5))) : o.wp Try.prog a w K Q := wp_make_u8 l c hop 512 hl hc (by omega) B hB h
end Go.Proofs.Ytplcljcpekphnaa
