/- append(b, make([]byte, n)...): noughts behind bytes of one's own. -/
import Derived.Test.YtdfnhgkabaikaaaTJoinsW
namespace Go.Proofs.Ytdfnhgkabaikaaa
open Go.RowKit
def zs (m : Nat) : List UInt8 := List.replicate m 0
theorem zs_len (m : Nat) : (zs m).length = m := List.length_replicate
theorem zs_cells (m : Nat) : Builtin.zeroCells (Value.int .u8 0).cells m = (Lib.strCells ⟨(zs m).toArray⟩).toArray := by
  rw [strCells_str]
  apply Array.ext'
  unfold Builtin.zeroCells zs
  have h1 : (Value.int .u8 0).cells = #[Value.int .u8 0] := rfl
  rw [h1]
  apply List.ext_getElem?
  intro i
  simp only [Array.toList_map, Array.toList_range, List.getElem?_map, List.map_replicate, List.getElem?_replicate]
  by_cases hi : i < m
  · simp [hi, Nat.mod_one]
    rfl
  · simp [hi]
theorem run_append_zeros (w : World) (ty : TypeId) (b : Option Addr) (n cap m : Nat) (hm : 0 < m) (hs : n + m ≤ 1000000) :
    (Builtin.append_ #[23, 3] ty #[.slice b n cap, .int .i64 (m : Nat)]).run Try.prog w = (Builtin.append_ #[23, 9] ty #[.slice b n cap, .string ⟨(zs m).toArray⟩]).run Try.prog w := by
  obtain ⟨i0, hi, hz0, hz1, hz2⟩ := info_parts infoU
  have hw : IntKind.i64.wrap (m : Int) = m := by rw [IntKind.wrap_i64]; omega
  have hsz : (⟨(zs m).toArray⟩ : ByteArray).size = m := by rw [size_str, zs_len]
  have hneg : ¬ ((m : Int) < 0) := by omega
  have h48i : ¬ (281474976710656 < (m : Int)) := by omega
  have hm2 : ¬ (m = 0) := by omega
  have hf : ∀ W, (Builtin.firstCells 1 m (.string ⟨(zs m).toArray⟩)).run Try.prog W = .ok (Lib.strCells ⟨(zs m).toArray⟩).toArray W := fun W => by
    have := Lib.run_firstCells_string (P := Try.prog) W 1 ⟨(zs m).toArray⟩
    rwa [hsz] at this
  by_cases hc : n + m ≤ cap
  · simp [Builtin.append_, run_underlying Try.underlying23, run_underlying Try.underlying3, run_underlying Try.underlying9, sizeOf, typeInfo, zeroValue, asInt, asIntOf, hi, hz0, hz1, hz2, Builtin.lenOf, hw, hsz, hneg, h48i, hm2, hc, hf, zs_cells]
  · have h63 : ¬ (9223372036854775807 < (n : Int) + (m : Int)) := by omega
    have h48 : ¬ (281474976710656 < Builtin.nextslicecap (n + m) cap) := by
      have := growslice_fits (need := n + m) (old := cap) (bytes := 1) (by omega) (by omega)
      omega
    simp [Builtin.append_, run_underlying Try.underlying23, run_underlying Try.underlying3, run_underlying Try.underlying9, sizeOf, typeInfo, zeroValue, asInt, asIntOf, hi, hz0, hz1, hz2, Builtin.lenOf, hw, hsz, hneg, h48i, hm2, hc, hf, h63, h48, zs_cells]
/-- append of noughts to bytes of one's own. -/
theorem wpList_append_zeros {w0 w : World} {ops : Array Oper} {rest : List Oper} {o : Oper} {a : Act} {Q : Exit → Act → World → Prop} (hwd : Region.wanted o (yielded ops a.tmps) = true) (s x : Operand)
    (ho : o.op = .call { callee := .builtin .append, args := #[s, x], argTypes := #[23, 3] }) (K m : Nat) (v : Value) (bs : List UInt8) (hs : a.eval s = v) (hx : a.eval x = .int .i64 (m : Nat)) (hown : Buf K w0 w v bs) (hm : 0 < m) (hn : bs.length + m ≤ 1000000)
    (h : ∀ v' w', Buf K w0 w' v' (bs ++ zs m) → wpList Try.prog ops Q rest (a.put o.dst v') w') : wpList Try.prog ops Q (o :: rest) a w := by
  obtain ⟨i0, hi, hz0, hz1, hz2⟩ := info_parts infoU
  have hsz : (⟨(zs m).toArray⟩ : ByteArray).size = m := by rw [size_str, zs_len]
  obtain ⟨v', w', hrun, h2, h3, -⟩ := Lib.run_append_own_stringF (P := Try.prog) w K 23 9 o.type 5 i0 Try.underlying23 Try.underlying9 hi hz0 hz1 hz2 v bs.length (bs.map B) hown.1 ⟨(zs m).toArray⟩ (by rw [hsz]; unfold maxLen; omega) (by rw [hsz]; omega) hown.2.2
  have hK : ∀ g, v.ownBlock = some g → K ≤ g := fun g hg => by
    rcases hown.1.2 with ⟨rfl, -⟩ | ⟨g', cap, cur, fz, rfl, hbg, -⟩
    · simp [Value.ownBlock] at hg
    · simp [Value.ownBlock] at hg
      omega
  have hB : Below K w w' := ⟨h3.os, h3.tape, h3.output, h3.size, fun k hk => h3.block k (by have := hown.2.2; omega) (fun e => by have := hK k e.symm; omega)⟩
  have hrun2 : (Builtin.append_ #[23, 3] o.type #[v, .int .i64 (m : Nat)]).run Try.prog w = .ok v' w' := by
    obtain ⟨ao, cap, e, -⟩ := Rd.of_buf hown
    rw [e] at hrun ⊢
    rw [run_append_zeros w o.type ao bs.length cap m hm hn]
    exact hrun
  unfold wpList
  rw [if_pos hwd]
  refine .inl ?_
  unfold Oper.wp execOp
  simp only [ho, resolve, invoke, builtin, Sem.run_bind, Sem.run_pure, Result.andThen_ok, List.map_toArray, List.map_cons, List.map_nil, hs, hx, hrun2]
  refine h v' w' ⟨?_, hown.2.1.trans hB, Nat.le_trans hown.2.2 h3.size⟩
  rw [List.length_append, List.map_append, zs_len]
  rw [hsz, strCells_str] at h2
  exact h2
end Go.Proofs.Ytdfnhgkabaikaaa
